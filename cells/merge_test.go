package cells_test

import (
	"math"
	"slices"
	"testing"

	"bushel/api"
	"bushel/cells"
)

// checkMerge fails if Merge has not this list and this error.
func checkMerge(t *testing.T, a, b []api.Cell, want []api.Cell, wanted api.Errno) {
	t.Helper()
	got, errno := cells.Merge(a, b)
	checkList(t, got, errno, want, wanted, "Merge", len(a), brief(a), len(b), brief(b))
}

// checkMergeDefined fails if Merge is not as defined, in both orders. It returns the
// error of the first one.
func checkMergeDefined(t *testing.T, a, b []api.Cell) api.Errno {
	t.Helper()
	want, wanted := defineMerge(b, a)
	checkMerge(t, b, a, want, wanted)
	want, wanted = defineMerge(a, b)
	checkMerge(t, a, b, want, wanted)
	return wanted
}

// Promise 15.3: empty lists.
func TestMergeEmpty(t *testing.T) {
	for _, none := range [][]api.Cell{nil, {}, plains(5)[:0]} {
		checkMerge(t, none, none, nil, api.OK)
		checkMerge(t, none, nil, nil, api.OK)
		checkMerge(t, []api.Cell{}, none, nil, api.OK)
		for _, l := range [][]api.Cell{plains(0), plains(1, 4, 23), keyed(math.MaxUint64)} {
			checkMerge(t, none, l, l, api.OK)
			checkMerge(t, l, none, l, api.OK)
		}
	}
}

// doubled returns the combination of plain with itself, written out.
func doubled(key uint64) api.Cell {
	return api.Cell{
		Key:   key,
		Count: 6,
		Ints: []api.Whole{
			{Sum: -8, Abs: 12, Squares: []uint32{28, 30, 32}, Min: -5, Max: 1},
			{Sum: 60, Abs: 62, Squares: []uint32{66}, Min: 8, Max: 21},
		},
		Nums: []api.Real{
			{Sum: sumOf(0.5, 0.25, 0.5, 0.25), Min: 0.25, Max: 0.5},
			{Sum: sumOf(-7, 100, -7, 100), Min: -7, Max: 100},
		},
	}
}

// Promise 15.3: written out: without a common key, with one and with all in common.
func TestMergeWritten(t *testing.T) {
	for _, c := range []struct{ a, b, want []uint64 }{
		{[]uint64{1, 2}, []uint64{3, 4}, []uint64{1, 2, 3, 4}},
		{[]uint64{1, 3}, []uint64{2, 4}, []uint64{1, 2, 3, 4}},
		{[]uint64{1, 4}, []uint64{2, 3}, []uint64{1, 2, 3, 4}},
		{[]uint64{0}, []uint64{math.MaxUint64}, []uint64{0, math.MaxUint64}},
		{[]uint64{1}, []uint64{1 << 32, 1<<32 + 1}, []uint64{1, 1 << 32, 1<<32 + 1}},
		{[]uint64{1<<63 - 1}, []uint64{1 << 63}, []uint64{1<<63 - 1, 1 << 63}},
	} {
		checkMerge(t, keyed(c.a...), keyed(c.b...), keyed(c.want...), api.OK)
		checkMerge(t, keyed(c.b...), keyed(c.a...), keyed(c.want...), api.OK)
		checkMerge(t, plains(c.a...), plains(c.b...), plains(c.want...), api.OK)
	}
	for i := range 3 {
		keys := []uint64{2, 5, 9}
		want := plains(keys...)
		want[i] = doubled(keys[i])
		checkMerge(t, plains(keys...), plains(keys[i]), want, api.OK)
		checkMerge(t, plains(keys[i]), plains(keys...), want, api.OK)
	}
	checkMerge(t, plains(1, 2, 3), plains(2, 4), []api.Cell{plain(1), doubled(2), plain(3), plain(4)}, api.OK)
	checkMerge(t, plains(1, 2, 3), plains(0, 3), []api.Cell{plain(0), plain(1), plain(2), doubled(3)}, api.OK)
	checkMerge(t, plains(1, 2, 3), plains(1, 2, 3), []api.Cell{doubled(1), doubled(2), doubled(3)}, api.OK)
	checkMerge(t, plains(math.MaxUint64), plains(math.MaxUint64), []api.Cell{doubled(math.MaxUint64)}, api.OK)
	l := plains(0, 7)
	checkMerge(t, l, l, []api.Cell{doubled(0), doubled(7)}, api.OK)
}

// Promises 15.2 to 15.4: of two equal floats the one of the first cell is taken: only the
// bits of NaN tell.
func TestFirstFloats(t *testing.T) {
	strange := math.Float64frombits(0xfff8000000000007)
	s := made(0, 1, 2)
	f := func(x float64) api.Fact { return api.Fact{Codes: []int{0}, Nums: []float64{x}} }
	c := func(key uint64, x float64) api.Cell {
		return api.Cell{Key: key, Count: 1, Nums: []api.Real{{Sum: sumOf(x), Min: x, Max: x}}}
	}
	for _, x := range [][2]float64{{nan, strange}, {strange, nan}} {
		for _, call := range []func() ([]api.Cell, api.Errno){
			func() ([]api.Cell, api.Errno) { return cells.Fold(s, 1, []api.Fact{f(x[0]), f(x[1])}) },
			func() ([]api.Cell, api.Errno) { return cells.Merge([]api.Cell{c(1, x[0])}, []api.Cell{c(1, x[1])}) },
			func() ([]api.Cell, api.Errno) { return cells.Roll(s, 1, 0, []api.Cell{c(0, x[0]), c(1, x[1])}) },
			func() ([]api.Cell, api.Errno) { return listOf(cells.Total([]api.Cell{c(1, x[0]), c(0, x[1])})) },
		} {
			got, errno := call()
			if errno != api.OK || len(got) != 1 {
				t.Fatalf("the error is %d, and there are %d cells", errno, len(got))
			}
			r := got[0].Nums[0]
			if math.Float64bits(r.Min) != math.Float64bits(x[0]) || math.Float64bits(r.Max) != math.Float64bits(x[0]) {
				t.Error("Min and Max are not those of the first cell")
			}
		}
	}
}

// Promise 15.3: Keys that are equal or decreasing in the first list, in the second and
// in both.
func TestMergeArg(t *testing.T) {
	for _, keys := range notIncreasing() {
		l := keyed(keys...)
		for _, other := range [][]api.Cell{nil, {}, keyed(0), keyed(5), keyed(math.MaxUint64), keyed(0, 1, 2, 3, 4, 5), keyed(20, 30), l} {
			checkMerge(t, l, other, nil, api.ErrArg)
			checkMerge(t, other, l, nil, api.ErrArg)
		}
	}
}

// Promise 15.3: the same at the end of a list, where nothing is left of the other one,
// and at its beginning.
func TestMergeArgInEachPlace(t *testing.T) {
	keys := []uint64{0, 2, 4, 6, 8, 10, 12, 14, 16, 18, 20, 22}
	for i := range keys[1:] {
		l := keyed(keys...)
		l[i+1].Key = l[i].Key
		swapped := keyed(keys...)
		swapped[i], swapped[i+1] = swapped[i+1], swapped[i]
		for _, other := range [][]api.Cell{nil, keyed(1), keyed(5, 11), keyed(100), keyed(keys...)} {
			checkMerge(t, l, other, nil, api.ErrArg)
			checkMerge(t, other, l, nil, api.ErrArg)
			checkMerge(t, swapped, other, nil, api.ErrArg)
			checkMerge(t, other, swapped, nil, api.ErrArg)
		}
	}
}

// Promise 15.3: cells with the same Key that cannot be joined, in each place.
func TestMergeClash(t *testing.T) {
	for _, c := range clashes() {
		for i := range 4 {
			a, b := plains(1, 3, 4, 9), plains(1, 3, 4, 9)
			c.change(&a[i], &b[i])
			checkMerge(t, a, b, nil, c.want)
			// Nothing is wrong where they do not meet.
			b[i].Key = uint64(100 + i)
			if i == 3 {
				checkMergeDefined(t, a, b)
				got, errno := cells.Merge(a, b)
				if errno != api.OK || len(got) != 5 || !defineSame(got[3:], []api.Cell{a[3], b[3]}) {
					t.Errorf("two cells that do not meet make the error %d", errno)
				}
			}
		}
	}
}

// Promise 15.3: of cells that cannot be joined at two keys, those of the smaller key
// decide; but Keys that are not strictly increasing come before, in either list.
func TestMergeOrder(t *testing.T) {
	for _, first := range clashes() {
		for _, second := range clashes() {
			a, b := plains(1, 3, 4, 9), plains(0, 3, 8, 9)
			first.change(&a[1], &b[1])
			second.change(&a[3], &b[3])
			checkMerge(t, a, b, nil, first.want)
		}
		a, b := plains(1, 3, 4, 9), plains(0, 3, 8, 9)
		first.change(&a[1], &b[1])
		checkMerge(t, append(a, plain(9)), b, nil, api.ErrArg)
		checkMerge(t, append(a, plain(8)), b, nil, api.ErrArg)
		checkMerge(t, a, append(b, plain(9)), nil, api.ErrArg)
		checkMerge(t, a, append(b, plain(3)), nil, api.ErrArg)
		checkMerge(t, append(a, plain(0)), append(b, plain(0)), nil, api.ErrArg)
		checkMerge(t, slices.Concat(plains(2), a), b, nil, api.ErrArg)
	}
}

// Promise 15.3: cells that are not valid are returned as they are, or combined.
func TestMergeNotValid(t *testing.T) {
	for _, fault := range faults() {
		c := plain(23)
		fault(&c)
		checkMerge(t, []api.Cell{c}, nil, []api.Cell{c}, api.OK)
		checkMerge(t, nil, []api.Cell{c}, []api.Cell{c}, api.OK)
		checkMerge(t, plains(0, 1), []api.Cell{c}, append(plains(0, 1), c), api.OK)
		checkMergeDefined(t, []api.Cell{c}, plains(1, 23))
		checkMergeDefined(t, []api.Cell{c}, []api.Cell{c})
	}
	bare := keyed(3)
	checkMerge(t, bare, plains(4), append(bare, plain(4)), api.OK)
	checkMerge(t, bare, plains(3), nil, api.ErrArg)
}

// Promise 15.3: mixed lists, also long beside short ones.
func TestMergeMixed(t *testing.T) {
	m := mixer(12)
	count := map[api.Errno]int{}
	for range 8000 {
		s := of(&m, samples())
		mask := of(&m, sets(s))
		a, b := m.list(s, mask, m.below(20)), m.list(s, mask, of(&m, []int{0, 1, 20}))
		if m.below(2) == 0 {
			// With many Keys in common.
			b = nil
			for _, c := range a[len(a)/3:] {
				b = append(b, m.cell(s, c.Key))
			}
		}
		for range m.below(3) {
			if len(a) > 0 {
				m.spoil(&a[m.below(len(a))])
			}
			if len(b) > 0 {
				m.spoil(&b[m.below(len(b))])
			}
		}
		count[checkMergeDefined(t, a, b)]++
	}
	for _, errno := range []api.Errno{api.OK, api.ErrArg, api.ErrOver, api.ErrRot} {
		if count[errno] < 100 {
			t.Errorf("only %d mixed lists have the error %d", count[errno], errno)
		}
	}
}

// spoil makes a change to a cell after which it may not fit, or not be valid.
func (m *mixer) spoil(c *api.Cell) {
	switch m.below(6) {
	case 0:
		c.Key = of(m, []uint64{c.Key + 1, c.Key / 2, 0})
	case 1:
		c.Nums = append(slices.Clone(c.Nums), api.Real{Sum: sumOf()})
	case 2:
		for i := range c.Nums {
			c.Nums[i].Sum = of(m, [][]byte{nil, {64, 0, 0}, longestSum(), longestSum()})
		}
	case 3, 4:
		for i := range c.Ints {
			c.Ints[i].Abs = most
		}
	default:
		c.Count = most
	}
}
