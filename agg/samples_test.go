package agg_test

import (
	"fmt"
	"math"
	"slices"
	"strconv"
	"testing"

	"bushel/agg"
	"bushel/api"
	"bushel/exact"
)

const (
	least = math.MinInt64
	most  = math.MaxInt64

	largest = math.MaxFloat64
)

var (
	infinity = math.Inf(1)
	nan      = math.NaN()
	minus0   = math.Copysign(0, -1)

	// strangeNaN is a NaN of other bits than nan: negative, and with a payload.
	strangeNaN = math.Float64frombits(0xfff8000000000007)
)

// mixer makes the same numbers in every run.
type mixer uint64

func (m *mixer) word() uint32 {
	*m = *m*6364136223846793005 + 1442695040888963407
	return uint32(*m >> 32)
}

// long returns 64 mixed bits.
func (m *mixer) long() uint64 {
	return uint64(m.word())<<32 | uint64(m.word())
}

// below returns a number from 0 to n - 1.
func (m *mixer) below(n int) int {
	return int(m.word() % uint32(n))
}

// of returns one of the elements.
func of[E any](m *mixer, l []E) E {
	return l[m.below(len(l))]
}

// named returns n names: the letter and the numbers from 0 on.
func named(letter string, n int) []string {
	var l []string
	for i := range n {
		l = append(l, letter+strconv.Itoa(i))
	}
	return l
}

// made returns a schema with so many Ints and Nums, and dimensions of these Sizes.
func made(ints, nums int, sizes ...int) api.Schema {
	s := api.Schema{Ints: named("i", ints), Nums: named("n", nums)}
	for i, size := range sizes {
		s.Dims = append(s.Dims, api.Dim{Name: "d" + strconv.Itoa(i), Size: size})
	}
	return s
}

// greatest returns a schema with as many of everything as there may be.
func greatest() api.Schema {
	s := made(3, 2, 4096, 2, 4096, 8, 1, 4096)
	for mask := range uint32(api.MaxViews) {
		s.Views = append(s.Views, mask)
	}
	return s
}

// samples returns valid schemas, with each number of Ints and Nums.
func samples() []api.Schema {
	l := []api.Schema{greatest(), made(0, 0, 1), made(0, 0, 4096), made(1, 0, 2)}
	for ints := range api.MaxInts + 1 {
		for nums := range api.MaxNums + 1 {
			l = append(l, made(ints, nums, 2, 3, 4))
		}
	}
	return l
}

// notValid returns schemas that are not valid, one for each reason and more.
func notValid() []api.Schema {
	same, name, view, order := made(1, 1, 2, 3), made(1, 1, 2, 3), made(1, 1, 2, 3), made(1, 1, 2, 3)
	same.Ints[0] = "d1"
	name.Nums[0] = "sum"
	view.Views = []uint32{4}
	order.Views = []uint32{2, 1}
	return []api.Schema{
		{},
		{Dims: []api.Dim{}, Ints: []string{"m"}},
		made(0, 0, 1, 1, 1, 1, 1, 1, 1),
		made(0, 0, slices.Repeat([]int{1}, 33)...),
		made(4, 0, 2),
		made(1, 3, 2),
		same,
		name,
		view,
		order,
		made(1, 1, 0),
		made(1, 1, 2, -1),
		made(1, 1, 4097),
		made(1, 1, math.MaxInt),
		made(1, 1, math.MinInt),
		made(1, 0, 4096, 4096, 4096, 17),
	}
}

// full returns the set of all dimensions.
func full(s api.Schema) uint32 {
	return uint32(1)<<len(s.Dims) - 1
}

// sets returns all sets of dimensions that a schema has: the empty one and the one of
// all are among them.
func sets(s api.Schema) []uint32 {
	var l []uint32
	for mask := range uint32(1) << len(s.Dims) {
		l = append(l, mask)
	}
	return l
}

// noSets returns masks with a bit that is not a dimension, alone and with dimensions.
func noSets(s api.Schema) []uint32 {
	n := len(s.Dims)
	var l []uint32
	for _, bit := range []int{n, n + 1, 15, 31} {
		l = append(l, 1<<bit, 1<<bit|1, 1<<bit|full(s))
	}
	return append(l, ^full(s), math.MaxUint32)
}

// integers and floats are the numbers that facts here have. That -2^63 is in a fact
// makes an error.
func integers() []int64 {
	return []int64{
		0, 1, -1, 2, -2, 3, -5, 255, 256, -256, 65535, 65536, -65536, 1<<31 - 1, 1 << 31, -1 << 31, 1<<32 - 1, 1 << 32, -1 << 32,
		1<<53 + 1, 1<<62 - 1, 1 << 62, -1 << 62, most - 1, most, least + 1, least + 2,
	}
}

func floats() []float64 {
	return []float64{
		0, minus0, 1, -1, 0.1, 0.2, -0.3, 2.5, 1 << 53, -1 << 53, math.Pi, 1e100, 0x1p-1074, -0x1p-1074, 0x1p-1022,
		largest, -largest, infinity, -infinity, nan, strangeNaN,
	}
}

// fact returns a valid fact, without -2^63.
func (m *mixer) fact(s api.Schema) api.Fact {
	var f api.Fact
	for _, d := range s.Dims {
		f.Codes = append(f.Codes, of(m, []int{0, d.Size - 1, m.below(d.Size), m.below(d.Size)}))
	}
	for range s.Ints {
		f.Ints = append(f.Ints, of(m, append(integers(), int64(m.long()|1)>>m.below(64))))
	}
	for range s.Nums {
		f.Nums = append(f.Nums, of(m, append(floats(), math.Float64frombits(m.long()), float64(m.below(100)))))
	}
	return f
}

// sumOf returns the encoding of the sum of these floats.
func sumOf(l ...float64) []byte {
	s := exact.New()
	for _, x := range l {
		s.Add(x)
	}
	return s.Bytes()
}

// units returns the encoding of a sum of so many words, all of them given.
func units(n int, word uint32) []byte {
	b := []byte{16, 0, byte(n)}
	for range n {
		b = append(b, byte(word>>24), byte(word>>16), byte(word>>8), byte(word))
	}
	return b
}

// longestSum returns the encoding of a total of 2240 bits that are all 1: one with 283
// bytes.
func longestSum() []byte {
	return units(70, math.MaxUint32)
}

// noSums returns bytes that are no encoding of a sum.
func noSums() [][]byte {
	return [][]byte{
		nil, {}, {0}, {0, 0}, {0, 0, 0, 0}, {64, 0, 0}, {48, 0, 0}, {16, 1, 0}, {16, 0, 1, 0, 0, 0, 0}, {16, 0, 1, 0, 0, 0},
		sumOf(1)[1:], sumOf(1)[:4], append(sumOf(1), 0), units(71, 1), longestSum()[:282], append(longestSum(), 0), make([]byte, 300),
	}
}

// squares returns lists of words that valid cells may have: no words, one, and as many
// as there may be.
func squares() [][]uint32 {
	return [][]uint32{
		nil, {}, {1}, {math.MaxUint32}, {0, 1}, {9, 8, 7}, slices.Repeat([]uint32{math.MaxUint32}, 7), {0, 0, 0, 0, 0, 0, 1},
		slices.Repeat([]uint32{math.MaxUint32}, 6), {0, 0, 0, 1 << 31},
	}
}

// cell returns a valid cell of a set, most of them not those of any facts.
func (m *mixer) cell(s api.Schema, mask uint32) api.Cell {
	n := defineKeys(s, mask)
	c := api.Cell{Key: of(m, []uint64{0, n - 1, m.long() % n}), Count: of(m, []int64{1, 2, 300, most, int64(m.long()>>1|1) >> m.below(63)})}
	c.Count = max(c.Count, 1)
	for range s.Ints {
		c.Ints = append(c.Ints, m.whole())
	}
	for range s.Nums {
		c.Nums = append(c.Nums, m.real())
	}
	return c
}

// whole returns what a valid cell may have of an integer measure.
func (m *mixer) whole() api.Whole {
	abs := of(m, []int64{0, 1, 7, most, most - 1, int64(m.long()>>1) >> m.below(63)})
	lowest, highest := of(m, integers()), of(m, append(integers(), least))
	return api.Whole{
		Sum:     of(m, []int64{abs, -abs, 0, abs / 2, -abs / 3}),
		Abs:     abs,
		Squares: of(m, squares()),
		Min:     min(lowest, highest),
		Max:     max(lowest, highest),
	}
}

// real returns what a valid cell may have of a float measure.
func (m *mixer) real() api.Real {
	a, b := of(m, floats()), of(m, floats())
	if defineBefore(b, a) {
		a, b = b, a
	}
	sum := of(m, [][]byte{sumOf(), sumOf(a), sumOf(a, b), sumOf(a, b, 1, 1e-300), longestSum(), units(70, 1), units(2, 5)})
	return api.Real{Sum: sum, Min: a, Max: b}
}

// plain returns a valid cell of made(2, 2, 2, 3, 4) for any set, with numbers that all
// differ.
func plain() api.Cell {
	return api.Cell{
		Key:   0,
		Count: 3,
		Ints: []api.Whole{
			{Sum: -4, Abs: 6, Squares: []uint32{14, 15, 16}, Min: -5, Max: 1},
			{Sum: 30, Abs: 31, Squares: []uint32{33}, Min: 8, Max: 21},
		},
		Nums: []api.Real{
			{Sum: sumOf(0.5, 0.25), Min: 0.25, Max: 0.5},
			{Sum: sumOf(-7, 100), Min: -7, Max: 100},
		},
	}
}

// plainSchema returns the schema of plain.
func plainSchema() api.Schema {
	return made(2, 2, 2, 3, 4)
}

// single returns a cell with one element of Ints.
func single(w api.Whole) api.Cell {
	return api.Cell{Count: 1, Ints: []api.Whole{w}}
}

// lone returns a cell with one element of Nums.
func lone(r api.Real) api.Cell {
	return api.Cell{Count: 1, Nums: []api.Real{r}}
}

// clone returns the same cell in memory of its own.
func clone(c api.Cell) api.Cell {
	c.Ints, c.Nums = slices.Clone(c.Ints), slices.Clone(c.Nums)
	for i := range c.Ints {
		c.Ints[i].Squares = slices.Clone(c.Ints[i].Squares)
	}
	for i := range c.Nums {
		c.Nums[i].Sum = slices.Clone(c.Nums[i].Sum)
	}
	return c
}

// isZero reports whether a cell is what is returned beside an error.
func isZero(c api.Cell) bool {
	return c.Key == 0 && c.Count == 0 && len(c.Ints) == 0 && len(c.Nums) == 0
}

// brief returns a list, or of a long one the beginning, for a message.
func brief[E any](l []E) []E {
	return l[:min(len(l), 30)]
}

// text returns a schema for a message.
func text(s api.Schema) string {
	var sizes []int
	for _, d := range s.Dims {
		sizes = append(sizes, d.Size)
	}
	return fmt.Sprintf("{Sizes %d Ints %d Nums %d Views %d}", brief(sizes), len(s.Ints), len(s.Nums), brief(s.Views))
}

// textOf returns a cell for a message.
func textOf(c api.Cell) string {
	return fmt.Sprintf("{Key %d Count %d Ints %v Nums %v}", c.Key, c.Count, c.Ints, c.Nums)
}

// checkCell fails if a call has not this cell and this error. Beside an error, the cell
// must be zero.
func checkCell(t *testing.T, call string, got api.Cell, errno api.Errno, want api.Cell, wanted api.Errno) {
	t.Helper()
	defer settle(t)
	if errno != wanted {
		t.Errorf("%s has the error %d; want %d", call, errno, wanted)
	}
	if errno != api.OK && !isZero(got) {
		t.Errorf("%s has the error %d and %s", call, errno, textOf(got))
	}
	if errno == api.OK && (!defineSame(got, want) || !agg.Same(got, want)) {
		t.Errorf("%s has %s; want %s", call, textOf(got), textOf(want))
	}
}

// settle ends a test that has failed, so that one fault is not told thousands of
// times.
func settle(t *testing.T) {
	t.Helper()
	if t.Failed() {
		t.FailNow()
	}
}
