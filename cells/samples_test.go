package cells_test

import (
	"math"
	"slices"
	"strconv"
	"testing"

	"bushel/agg"
	"bushel/api"
	"bushel/exact"
)

const (
	least = math.MinInt64
	most  = math.MaxInt64
)

var (
	infinity = math.Inf(1)
	nan      = math.NaN()
	minus0   = math.Copysign(0, -1)
)

// mixer makes the same numbers in every run.
type mixer uint64

func (m *mixer) word() uint32 {
	*m = *m*6364136223846793005 + 1442695040888963407
	return uint32(*m >> 32)
}

// long returns 64 mixed bits.
func (m *mixer) long() uint64 {
	return uint64(m.word())<<32 | uint64(m.word())
}

// below returns a number from 0 to n - 1.
func (m *mixer) below(n int) int {
	return int(m.word() % uint32(n))
}

// of returns one of the elements.
func of[E any](m *mixer, l []E) E {
	return l[m.below(len(l))]
}

// named returns n names: the letter and the numbers from 0 on.
func named(letter string, n int) []string {
	var l []string
	for i := range n {
		l = append(l, letter+strconv.Itoa(i))
	}
	return l
}

// made returns a schema with so many Ints and Nums, and dimensions of these Sizes.
func made(ints, nums int, sizes ...int) api.Schema {
	s := api.Schema{Ints: named("i", ints), Nums: named("n", nums)}
	for i, size := range sizes {
		s.Dims = append(s.Dims, api.Dim{Name: "d" + strconv.Itoa(i), Size: size})
	}
	return s
}

// greatest returns a schema with as many of everything as there may be.
func greatest() api.Schema {
	s := made(3, 2, 4096, 2, 4096, 8, 1, 4096)
	for mask := range uint32(api.MaxViews) {
		s.Views = append(s.Views, mask)
	}
	return s
}

// samples returns valid schemas, with each number of Ints and Nums.
func samples() []api.Schema {
	l := []api.Schema{greatest(), made(0, 0, 1), made(1, 1, 4096), made(1, 0, 2)}
	for ints := range api.MaxInts + 1 {
		for nums := range api.MaxNums + 1 {
			l = append(l, made(ints, nums, 2, 3, 4))
		}
	}
	return l
}

// notValid returns schemas that are not valid, one for each reason and more.
func notValid() []api.Schema {
	same, name, view, order := made(1, 1, 2, 3), made(1, 1, 2, 3), made(1, 1, 2, 3), made(1, 1, 2, 3)
	same.Ints[0] = "d1"
	name.Nums[0] = "sum"
	view.Views = []uint32{4}
	order.Views = []uint32{2, 1}
	return []api.Schema{
		{},
		{Dims: []api.Dim{}, Ints: []string{"m"}},
		made(0, 0, 1, 1, 1, 1, 1, 1, 1),
		made(0, 0, slices.Repeat([]int{1}, 33)...),
		made(4, 0, 2),
		made(1, 3, 2),
		same,
		name,
		view,
		order,
		made(1, 1, 0),
		made(1, 1, 2, -1),
		made(1, 1, 4097),
		made(1, 1, math.MaxInt),
		made(1, 0, 4096, 4096, 4096, 17),
	}
}

// full returns the set of all dimensions.
func full(s api.Schema) uint32 {
	return uint32(1)<<len(s.Dims) - 1
}

// sets returns all sets of dimensions that a schema has: the empty one and the one of
// all are among them.
func sets(s api.Schema) []uint32 {
	var l []uint32
	for mask := range uint32(1) << len(s.Dims) {
		l = append(l, mask)
	}
	return l
}

// noSets returns masks with a bit that is not a dimension, alone and with dimensions.
func noSets(s api.Schema) []uint32 {
	n := len(s.Dims)
	var l []uint32
	for _, bit := range []int{n, n + 1, 15, 31} {
		l = append(l, 1<<bit, 1<<bit|1, 1<<bit|full(s))
	}
	return append(l, ^full(s), math.MaxUint32)
}

// floats are numbers that facts here have.
func floats() []float64 {
	return []float64{
		0, minus0, 1, -1, 0.1, 0.2, -0.3, 1 << 53, -1 << 53, 1e100, -1e100, 0x1p-1074, math.MaxFloat64, -math.MaxFloat64,
		infinity, -infinity, nan,
	}
}

// fact returns a valid fact. The numbers of many of them fit into one cell.
func (m *mixer) fact(s api.Schema) api.Fact {
	var f api.Fact
	for _, d := range s.Dims {
		f.Codes = append(f.Codes, of(m, []int{0, d.Size - 1, m.below(d.Size), min(m.below(3), d.Size-1)}))
	}
	for range s.Ints {
		f.Ints = append(f.Ints, int64(m.long())>>(12+m.below(50)))
	}
	for range s.Nums {
		f.Nums = append(f.Nums, of(m, append(floats(), float64(m.below(100)), float64(m.word())/7)))
	}
	return f
}

// facts returns n valid facts.
func (m *mixer) facts(s api.Schema, n int) []api.Fact {
	var l []api.Fact
	for range n {
		l = append(l, m.fact(s))
	}
	return l
}

// sumOf returns the encoding of the sum of these floats.
func sumOf(l ...float64) []byte {
	s := exact.New()
	for _, x := range l {
		s.Add(x)
	}
	return s.Bytes()
}

// longestSum returns the encoding of a total of 2240 bits that are all 1.
func longestSum() []byte {
	return append([]byte{16, 0, 70}, slices.Repeat([]byte{255}, 280)...)
}

// cell returns a valid cell of each set that has this Key. Hundreds of them fit into
// one cell.
func (m *mixer) cell(s api.Schema, key uint64) api.Cell {
	c := api.Cell{Key: key, Count: int64(1 + m.below(1000))}
	for range s.Ints {
		abs := int64(m.long() >> (12 + m.below(50)))
		a, b := int64(m.long())>>m.below(64), int64(m.long())>>m.below(64)
		c.Ints = append(c.Ints, api.Whole{
			Sum:     of(m, []int64{abs, -abs, 0, -abs / 3}),
			Abs:     abs,
			Squares: of(m, [][]uint32{nil, {1}, {0, m.word() | 1}, {m.word(), math.MaxUint32, m.word() | 1}, slices.Repeat([]uint32{math.MaxUint32}, 6)}),
			Min:     min(a, b),
			Max:     max(a, b),
		})
	}
	for range s.Nums {
		x := float64(m.word()) / 8
		c.Nums = append(c.Nums, api.Real{
			Sum: of(m, [][]byte{sumOf(), sumOf(x), sumOf(of(m, floats())), sumOf(of(m, floats()), x, -1e-300)}),
			Min: of(m, []float64{-infinity, -x, minus0, 0}),
			Max: of(m, []float64{0, x, infinity, nan}),
		})
	}
	return c
}

// list returns a valid list of at most n cells.
func (m *mixer) list(s api.Schema, mask uint32, n int) []api.Cell {
	all := defineKeys(s, mask)
	var keys []uint64
	for range n {
		keys = append(keys, of(m, []uint64{0, all - 1, m.long() % all, m.long() % all, m.long() % 10 % all}))
	}
	slices.Sort(keys)
	var l []api.Cell
	for _, k := range slices.Compact(keys) {
		l = append(l, m.cell(s, k))
	}
	return l
}

// keyed returns cells with Count 1 and these Keys.
func keyed(keys ...uint64) []api.Cell {
	var l []api.Cell
	for _, k := range keys {
		l = append(l, api.Cell{Key: k, Count: 1})
	}
	return l
}

// notIncreasing returns Keys that are not strictly increasing.
func notIncreasing() [][]uint64 {
	return [][]uint64{
		{0, 0}, {5, 5}, {1, 0}, {7, 6}, {0, 1, 1}, {0, 0, 1}, {0, 2, 1}, {1, 0, 2}, {2, 1, 0}, {0, 1, 0}, {3, 3, 3},
		{0, 1, 2, 3, 4, 5, 6, 7, 8, 8}, {0, 1, 2, 3, 4, 5, 6, 7, 9, 8}, {1, 0, 2, 3, 4, 5, 6, 7, 8, 9},
		{math.MaxUint64, 0}, {math.MaxUint64, math.MaxUint64}, {1 << 32, 1}, {1 << 63, 1}, {1 << 63, 1<<63 - 1},
	}
}

// plain returns a valid cell of plainSchema for any set, with numbers that all differ.
func plain(key uint64) api.Cell {
	return api.Cell{
		Key:   key,
		Count: 3,
		Ints: []api.Whole{
			{Sum: -4, Abs: 6, Squares: []uint32{14, 15, 16}, Min: -5, Max: 1},
			{Sum: 30, Abs: 31, Squares: []uint32{33}, Min: 8, Max: 21},
		},
		Nums: []api.Real{
			{Sum: sumOf(0.5, 0.25), Min: 0.25, Max: 0.5},
			{Sum: sumOf(-7, 100), Min: -7, Max: 100},
		},
	}
}

// plainSchema returns the schema of plain. The set of all dimensions has 24 keys.
func plainSchema() api.Schema {
	return made(2, 2, 2, 3, 4)
}

// plains returns cells like plain with these Keys.
func plains(keys ...uint64) []api.Cell {
	var l []api.Cell
	for _, k := range keys {
		l = append(l, plain(k))
	}
	return l
}

// differences are changes to a cell like plain, after each of which it has one other
// number, or one more or less.
func differences() []func(c *api.Cell) {
	l := []func(c *api.Cell){
		func(c *api.Cell) { c.Key ^= 1 },
		func(c *api.Cell) { c.Key ^= 1 << 63 },
		func(c *api.Cell) { c.Count++ },
		func(c *api.Cell) { c.Ints = c.Ints[1:] },
		func(c *api.Cell) { c.Nums = c.Nums[:1] },
		func(c *api.Cell) { c.Ints = append(c.Ints, api.Whole{}) },
		func(c *api.Cell) { c.Nums = append(c.Nums, api.Real{Sum: sumOf()}) },
	}
	for i := range 2 {
		l = append(l,
			func(c *api.Cell) { c.Ints[i].Sum-- },
			func(c *api.Cell) { c.Ints[i].Abs++ },
			func(c *api.Cell) { c.Ints[i].Squares = append(c.Ints[i].Squares, 0) },
			func(c *api.Cell) { c.Ints[i].Squares[0]++ },
			func(c *api.Cell) { c.Ints[i].Min-- },
			func(c *api.Cell) { c.Ints[i].Max++ },
			func(c *api.Cell) { c.Nums[i].Sum = sumOf(3) },
			func(c *api.Cell) { c.Nums[i].Min = -infinity },
			func(c *api.Cell) { c.Nums[i].Max = nan },
		)
	}
	return l
}

// faults are changes to a cell like plain, after each of which it is not valid for any
// set of plainSchema.
func faults() []func(c *api.Cell) {
	l := []func(c *api.Cell){
		func(c *api.Cell) { *c = api.Cell{Key: c.Key} },
		func(c *api.Cell) { c.Key = 24 },
		func(c *api.Cell) { c.Key += 1 << 32 },
		func(c *api.Cell) { c.Key = math.MaxUint64 },
		func(c *api.Cell) { c.Count = 0 },
		func(c *api.Cell) { c.Count = -1 },
		func(c *api.Cell) { c.Ints = c.Ints[1:] },
		func(c *api.Cell) { c.Nums = nil },
		func(c *api.Cell) { c.Ints = append(c.Ints, api.Whole{}) },
		func(c *api.Cell) { c.Nums = append(c.Nums, api.Real{Sum: sumOf()}) },
	}
	for i := range 2 {
		l = append(l,
			func(c *api.Cell) { c.Ints[i].Sum, c.Ints[i].Abs = 0, -1 },
			func(c *api.Cell) { c.Ints[i].Sum = c.Ints[i].Abs + 1 },
			func(c *api.Cell) { c.Ints[i].Squares = []uint32{1, 0} },
			func(c *api.Cell) { c.Ints[i].Squares = slices.Repeat([]uint32{1}, 8) },
			func(c *api.Cell) { c.Ints[i].Min = c.Ints[i].Max + 1 },
			func(c *api.Cell) { c.Nums[i].Sum = nil },
			func(c *api.Cell) { c.Nums[i].Sum = []byte{64, 0, 0} },
			func(c *api.Cell) { c.Nums[i].Min, c.Nums[i].Max = 0, minus0 },
		)
	}
	return l
}

// clash is a change to two cells like plain, after which they cannot be joined.
type clash struct {
	change func(a, b *api.Cell)
	want   api.Errno
	// valid tells whether both cells are still valid.
	valid bool
}

func clashes() []clash {
	l := []clash{
		{func(a, b *api.Cell) { b.Ints = b.Ints[1:] }, api.ErrArg, false},
		{func(a, b *api.Cell) { a.Nums = nil }, api.ErrArg, false},
		{func(a, b *api.Cell) { a.Count, b.Count = most, 1 }, api.ErrOver, true},
	}
	for i := range 2 {
		l = append(l,
			clash{func(a, b *api.Cell) { a.Ints[i].Abs, b.Ints[i].Abs = most-29, 31 }, api.ErrOver, true},
			clash{func(a, b *api.Cell) { a.Ints[i].Sum, b.Ints[i].Sum = least, -1 }, api.ErrOver, false},
			clash{func(a, b *api.Cell) { a.Nums[i].Sum = nil }, api.ErrRot, false},
			clash{func(a, b *api.Cell) { b.Nums[i].Sum = []byte{64, 0, 0} }, api.ErrRot, false},
			clash{func(a, b *api.Cell) { a.Nums[i].Sum, b.Nums[i].Sum = longestSum(), sumOf(1) }, api.ErrOver, true},
		)
	}
	return l
}

// clone returns the same cell in memory of its own.
func clone(c api.Cell) api.Cell {
	c.Ints, c.Nums = slices.Clone(c.Ints), slices.Clone(c.Nums)
	for i := range c.Ints {
		c.Ints[i].Squares = slices.Clone(c.Ints[i].Squares)
	}
	for i := range c.Nums {
		c.Nums[i].Sum = slices.Clone(c.Nums[i].Sum)
	}
	return c
}

// cloneAll returns the same list in memory of its own.
func cloneAll(l []api.Cell) []api.Cell {
	var all []api.Cell
	for _, c := range l {
		all = append(all, clone(c))
	}
	return all
}

// brief returns a list, or of a long one the beginning, for a message.
func brief[E any](l []E) []E {
	return l[:min(len(l), 10)]
}

// checkList fails if a call has not this list and this error. Beside an error, the list
// must be empty. What the call was given is told if it fails.
func checkList(t *testing.T, got []api.Cell, errno api.Errno, want []api.Cell, wanted api.Errno, call ...any) {
	t.Helper()
	if errno != wanted {
		t.Fatalf("%v has the error %d; want %d", call, errno, wanted)
	}
	if errno != api.OK && len(got) > 0 {
		t.Fatalf("%v has the error %d and %d cells", call, errno, len(got))
	}
	if errno == api.OK && !defineSame(got, want) {
		t.Fatalf("%v has %d cells: %v; want %d cells: %v", call, len(got), brief(got), len(want), brief(want))
	}
}

// checkCell fails if a call has not this cell and this error. Beside an error, the cell
// must be zero.
func checkCell(t *testing.T, got api.Cell, errno api.Errno, want api.Cell, wanted api.Errno, call ...any) {
	t.Helper()
	if errno != wanted {
		t.Fatalf("%v has the error %d; want %d", call, errno, wanted)
	}
	if errno != api.OK {
		want = api.Cell{}
	}
	if !agg.Same(got, want) {
		t.Fatalf("%v has the error %d and %v; want %v", call, errno, got, want)
	}
}
