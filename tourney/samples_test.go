package tourney_test

import (
	"math"
	"slices"
	"testing"

	"bushel/api"
	"bushel/exact"
)

const (
	least = math.MinInt64
	most  = math.MaxInt64
)

var (
	infinity = math.Inf(1)
	nan      = math.NaN()
	minus0   = math.Copysign(0, -1)
)

// mixer makes the same numbers in every run.
type mixer uint64

func (m *mixer) word() uint32 {
	*m = *m*6364136223846793005 + 1442695040888963407
	return uint32(*m >> 32)
}

// long returns 64 mixed bits.
func (m *mixer) long() uint64 {
	return uint64(m.word())<<32 | uint64(m.word())
}

// below returns a number from 0 to n - 1.
func (m *mixer) below(n int) int {
	return int(m.word() % uint32(n))
}

// of returns one of the elements.
func of[E any](m *mixer, l []E) E {
	return l[m.below(len(l))]
}

// mix brings the elements into another order.
func mix[E any](m *mixer, l []E) {
	for i := range l {
		j := m.below(i + 1)
		l[i], l[j] = l[j], l[i]
	}
}

// sumOf returns the encoding of the sum of these floats.
func sumOf(l ...float64) []byte {
	s := exact.New()
	for _, x := range l {
		s.Add(x)
	}
	return s.Bytes()
}

// longestSum returns the encoding of a total of 2240 bits that are all 1.
func longestSum() []byte {
	return append([]byte{16, 0, 70}, slices.Repeat([]byte{255}, 280)...)
}

// floats are numbers that facts here have.
func floats() []float64 {
	return []float64{0, minus0, 1, -1, 0.1, 0.2, -0.3, 1 << 53, 1e100, -1e100, 0x1p-1074, math.MaxFloat64, infinity, -infinity, nan}
}

// cell returns a cell with so many Ints and Nums. Hundreds of them fit into one cell.
func (m *mixer) cell(key uint64, ints, nums int) api.Cell {
	c := api.Cell{Key: key, Count: int64(1 + m.below(1000))}
	for range ints {
		abs := int64(m.long() >> (12 + m.below(50)))
		a, b := int64(m.long())>>m.below(64), int64(m.long())>>m.below(64)
		c.Ints = append(c.Ints, api.Whole{
			Sum:     of(m, []int64{abs, -abs, 0, -abs / 3}),
			Abs:     abs,
			Squares: of(m, [][]uint32{nil, {1}, {0, m.word() | 1}, {m.word(), math.MaxUint32, m.word() | 1}}),
			Min:     min(a, b),
			Max:     max(a, b),
		})
	}
	for range nums {
		x := float64(m.word()) / 8
		c.Nums = append(c.Nums, api.Real{
			Sum: of(m, [][]byte{sumOf(), sumOf(x), sumOf(of(m, floats())), sumOf(of(m, floats()), x, -1e-300)}),
			Min: of(m, []float64{-infinity, -x, minus0, 0}),
			Max: of(m, []float64{0, x, infinity, nan}),
		})
	}
	return c
}

// key returns a Key that other cells may have too.
func (m *mixer) key() uint64 {
	return of(m, []uint64{0, uint64(m.below(10)), uint64(m.below(10)), uint64(m.below(100)), m.long(), 1 << 63, math.MaxUint64})
}

// list returns a list of at most n cells with so many Ints and Nums.
func (m *mixer) list(n, ints, nums int) []api.Cell {
	var keys []uint64
	for range n {
		keys = append(keys, m.key())
	}
	slices.Sort(keys)
	var l []api.Cell
	for _, k := range slices.Compact(keys) {
		l = append(l, m.cell(k, ints, nums))
	}
	return l
}

// lists returns n lists, whose cells all have as many Ints and Nums. Some of them are
// empty.
func (m *mixer) lists(n int) [][]api.Cell {
	ints, nums := m.below(api.MaxInts+1), m.below(api.MaxNums+1)
	var l [][]api.Cell
	for range n {
		l = append(l, m.list(of(m, []int{0, 1, 3, 5, m.below(20)}), ints, nums))
	}
	return l
}

// spoil makes a change to a cell after which it may not fit, or its list may not be in
// order.
func (m *mixer) spoil(c *api.Cell) {
	switch m.below(8) {
	case 0:
		c.Key = of(m, []uint64{c.Key + 1, c.Key / 2, 0})
	case 1:
		c.Nums = append(slices.Clone(c.Nums), api.Real{Sum: sumOf()})
	case 2, 3:
		for i := range c.Nums {
			c.Nums[i].Sum = of(m, [][]byte{nil, {64, 0, 0}, longestSum(), longestSum()})
		}
	case 4, 5:
		for i := range c.Ints {
			c.Ints[i].Abs = most
		}
	default:
		c.Count = most
	}
}

// keyed returns cells with Count 1 and these Keys.
func keyed(keys ...uint64) []api.Cell {
	var l []api.Cell
	for _, k := range keys {
		l = append(l, api.Cell{Key: k, Count: 1})
	}
	return l
}

// notIncreasing returns Keys that are not strictly increasing.
func notIncreasing() [][]uint64 {
	return [][]uint64{
		{0, 0}, {5, 5}, {1, 0}, {7, 6}, {0, 1, 1}, {0, 0, 1}, {0, 2, 1}, {1, 0, 2}, {2, 1, 0}, {0, 1, 0}, {3, 3, 3},
		{0, 1, 2, 3, 4, 5, 6, 7, 8, 8}, {0, 1, 2, 3, 4, 5, 6, 7, 9, 8}, {1, 0, 2, 3, 4, 5, 6, 7, 8, 9},
		{math.MaxUint64, 0}, {math.MaxUint64, math.MaxUint64}, {1 << 32, 1}, {1 << 63, 1}, {1 << 63, 1<<63 - 1},
	}
}

// plain returns a cell whose numbers all differ.
func plain(key uint64) api.Cell {
	return api.Cell{
		Key:   key,
		Count: 3,
		Ints: []api.Whole{
			{Sum: -4, Abs: 6, Squares: []uint32{14, 15, 16}, Min: -5, Max: 1},
			{Sum: 30, Abs: 31, Squares: []uint32{33}, Min: 8, Max: 21},
		},
		Nums: []api.Real{
			{Sum: sumOf(0.5, 0.25), Min: 0.25, Max: 0.5},
			{Sum: sumOf(-7, 100), Min: -7, Max: 100},
		},
	}
}

// plains returns cells like plain with these Keys.
func plains(keys ...uint64) []api.Cell {
	var l []api.Cell
	for _, k := range keys {
		l = append(l, plain(k))
	}
	return l
}

// times returns the combination of n cells like plain, written out.
func times(n int, key uint64) api.Cell {
	i, w := int64(n), uint32(n)
	var x, y []float64
	for range n {
		x, y = append(x, 0.5, 0.25), append(y, -7, 100)
	}
	return api.Cell{
		Key:   key,
		Count: 3 * i,
		Ints: []api.Whole{
			{Sum: -4 * i, Abs: 6 * i, Squares: []uint32{14 * w, 15 * w, 16 * w}, Min: -5, Max: 1},
			{Sum: 30 * i, Abs: 31 * i, Squares: []uint32{33 * w}, Min: 8, Max: 21},
		},
		Nums: []api.Real{
			{Sum: sumOf(x...), Min: 0.25, Max: 0.5},
			{Sum: sumOf(y...), Min: -7, Max: 100},
		},
	}
}

// clash is a change to two cells like plain, after which they cannot be joined.
type clash struct {
	change func(a, b *api.Cell)
	want   api.Errno
}

func clashes() []clash {
	l := []clash{
		{func(a, b *api.Cell) { b.Ints = b.Ints[1:] }, api.ErrArg},
		{func(a, b *api.Cell) { b.Nums = nil }, api.ErrArg},
		{func(a, b *api.Cell) { b.Count = most }, api.ErrOver},
	}
	for i := range 2 {
		l = append(l,
			clash{func(a, b *api.Cell) { b.Ints[i].Abs = most }, api.ErrOver},
			clash{func(a, b *api.Cell) { a.Ints[i].Sum, b.Ints[i].Sum = least/2, least }, api.ErrOver},
			clash{func(a, b *api.Cell) { b.Nums[i].Sum = nil }, api.ErrRot},
			clash{func(a, b *api.Cell) { b.Nums[i].Sum = []byte{64, 0, 0} }, api.ErrRot},
			clash{func(a, b *api.Cell) { a.Nums[i].Sum, b.Nums[i].Sum = sumOf(0x1p-1074), longestSum() }, api.ErrOver},
		)
	}
	return l
}

// clone returns the same cell in memory of its own.
func clone(c api.Cell) api.Cell {
	c.Ints, c.Nums = slices.Clone(c.Ints), slices.Clone(c.Nums)
	for i := range c.Ints {
		c.Ints[i].Squares = slices.Clone(c.Ints[i].Squares)
	}
	for i := range c.Nums {
		c.Nums[i].Sum = slices.Clone(c.Nums[i].Sum)
	}
	return c
}

// cloneAll returns the same list in memory of its own.
func cloneAll(l []api.Cell) []api.Cell {
	var all []api.Cell
	for _, c := range l {
		all = append(all, clone(c))
	}
	return all
}

// cloneLists returns the same lists in memory of their own.
func cloneLists(lists [][]api.Cell) [][]api.Cell {
	var all [][]api.Cell
	for _, l := range lists {
		all = append(all, cloneAll(l))
	}
	return all
}

// brief returns a list, or of a long one the beginning, for a message.
func brief[E any](l []E) []E {
	return l[:min(len(l), 10)]
}

// checkList fails if a call has not this list and this error. Beside an error, the list
// must be empty. What the call was given is told if it fails.
func checkList(t *testing.T, got []api.Cell, errno api.Errno, want []api.Cell, wanted api.Errno, call ...any) {
	t.Helper()
	if errno != wanted {
		t.Fatalf("%v has the error %d; want %d", call, errno, wanted)
	}
	if errno != api.OK && len(got) > 0 {
		t.Fatalf("%v has the error %d and %d cells", call, errno, len(got))
	}
	if errno == api.OK && !defineSame(got, want) {
		t.Fatalf("%v has %d cells: %v; want %d cells: %v", call, len(got), brief(got), len(want), brief(want))
	}
}
