package tourney_test

import (
	"math"
	"slices"
	"testing"

	"bushel/api"
	"bushel/tourney"
)

// checkMerge fails if Merge has not this list and this error. Beside an error, the list
// must be empty.
func checkMerge(t *testing.T, lists [][]api.Cell, want []api.Cell, wanted api.Errno) {
	t.Helper()
	got, errno := tourney.Merge(lists)
	checkList(t, got, errno, want, wanted, "Merge", len(lists), brief(lists))
}

// checkMergeDefined fails if Merge is not as defined. It returns the list and the error.
func checkMergeDefined(t *testing.T, lists [][]api.Cell) ([]api.Cell, api.Errno) {
	t.Helper()
	want, wanted := defineMerge(lists)
	checkMerge(t, lists, want, wanted)
	return want, wanted
}

// Promise 16.1: no lists, and empty lists only.
func TestMergeNothing(t *testing.T) {
	checkMerge(t, nil, nil, api.OK)
	checkMerge(t, [][]api.Cell{}, nil, api.OK)
	checkMerge(t, [][]api.Cell{plains(1)}[:0], nil, api.OK)
	for _, none := range [][]api.Cell{nil, {}, plains(5)[:0]} {
		for _, n := range []int{1, 2, 3, 50} {
			checkMerge(t, slices.Repeat([][]api.Cell{none}, n), nil, api.OK)
		}
	}
	checkMerge(t, [][]api.Cell{nil, {}, plains(5)[:0], nil}, nil, api.OK)
}

// Promise 16.1: one list is returned as it is.
func TestMergeOne(t *testing.T) {
	m := mixer(1)
	for _, l := range [][]api.Cell{plains(0), plains(7), plains(math.MaxUint64), plains(1, 4, 23), keyed(0, 1, 2, 1<<63, math.MaxUint64)} {
		checkMerge(t, [][]api.Cell{l}, l, api.OK)
	}
	for range 100 {
		l := m.lists(1)
		checkMerge(t, l, l[0], api.OK)
	}
}

// Promise 16.1: some of the lists are empty, in each place.
func TestMergeSomeEmpty(t *testing.T) {
	a, b := plains(1, 4, 9), plains(2, 4, 7)
	want := []api.Cell{plain(1), plain(2), times(2, 4), plain(7), plain(9)}
	for _, none := range [][]api.Cell{nil, {}} {
		for _, lists := range [][][]api.Cell{
			{none, a, b}, {a, none, b}, {a, b, none}, {none, none, a, none, none, b, none}, {b, none, a}, {none, b, a, none},
		} {
			checkMerge(t, lists, want, api.OK)
		}
		checkMerge(t, [][]api.Cell{none, a}, a, api.OK)
		checkMerge(t, [][]api.Cell{b, none, none}, b, api.OK)
	}
}

// Promise 16.1: lists without a common key, written out: one after the other, one
// within the other, and in turn.
func TestMergeApart(t *testing.T) {
	for _, c := range []struct {
		lists [][]uint64
		want  []uint64
	}{
		{[][]uint64{{1, 2}, {3, 4}, {5}}, []uint64{1, 2, 3, 4, 5}},
		{[][]uint64{{5}, {3, 4}, {1, 2}}, []uint64{1, 2, 3, 4, 5}},
		{[][]uint64{{1, 9}, {2, 8}, {3, 7}, {4, 6}, {5}}, []uint64{1, 2, 3, 4, 5, 6, 7, 8, 9}},
		{[][]uint64{{3, 6, 9}, {1, 4, 7}, {2, 5, 8}}, []uint64{1, 2, 3, 4, 5, 6, 7, 8, 9}},
		{[][]uint64{{10}, {2}, {33}, {0}}, []uint64{0, 2, 10, 33}},
		{[][]uint64{{math.MaxUint64}, {0}}, []uint64{0, math.MaxUint64}},
		{[][]uint64{{1 << 63}, {1<<63 - 1}, {1}}, []uint64{1, 1<<63 - 1, 1 << 63}},
		{[][]uint64{{1<<32 + 1}, {2}, {1 << 32, 1 << 33}}, []uint64{2, 1 << 32, 1<<32 + 1, 1 << 33}},
	} {
		var bare, whole [][]api.Cell
		for _, keys := range c.lists {
			bare, whole = append(bare, keyed(keys...)), append(whole, plains(keys...))
		}
		checkMerge(t, bare, keyed(c.want...), api.OK)
		checkMerge(t, whole, plains(c.want...), api.OK)
		slices.Reverse(whole)
		checkMerge(t, whole, plains(c.want...), api.OK)
	}
}

// Promise 16.1: many lists without a common key, in several orders.
func TestMergeManyApart(t *testing.T) {
	m := mixer(2)
	for _, n := range []int{2, 3, 10, 100, 2000} {
		lists := make([][]api.Cell, n)
		var all []uint64
		for k := range uint64(3 * n) {
			i := (k * k / 3) % uint64(n)
			lists[i] = append(lists[i], plain(k+1<<40))
			all = append(all, k+1<<40)
		}
		want := plains(all...)
		checkMerge(t, lists, want, api.OK)
		slices.Reverse(lists)
		checkMerge(t, lists, want, api.OK)
		mix(&m, lists)
		checkMerge(t, lists, want, api.OK)
	}
}

// Promise 16.1: lists that all have the same keys.
func TestMergeAlike(t *testing.T) {
	for _, n := range []int{2, 3, 4, 7, 8, 9, 100, 1000} {
		keys := []uint64{0, 3, 4, 1 << 32, 1 << 63, math.MaxUint64}
		var lists [][]api.Cell
		for range n {
			lists = append(lists, plains(keys...))
		}
		var want []api.Cell
		for _, k := range keys {
			want = append(want, times(n, k))
		}
		checkMerge(t, lists, want, api.OK)
		// The same memory, again and again.
		checkMerge(t, slices.Repeat([][]api.Cell{plains(keys...)}, n), want, api.OK)
	}
}

// Promise 16.1: some keys are in one list, some in two, some in all.
func TestMergeSomeAlike(t *testing.T) {
	lists := [][]api.Cell{plains(1, 2, 3), plains(3, 4), plains(0, 2, 3, 9), plains(3), plains(9, 10)}
	want := []api.Cell{plain(0), plain(1), times(2, 2), times(4, 3), plain(4), times(2, 9), plain(10)}
	checkMerge(t, lists, want, api.OK)
	slices.Reverse(lists)
	checkMerge(t, lists, want, api.OK)
	checkMerge(t, [][]api.Cell{plains(7), plains(7), plains(7)}, []api.Cell{times(3, 7)}, api.OK)
	checkMerge(t, [][]api.Cell{plains(7), plains(8), plains(7)}, []api.Cell{times(2, 7), plain(8)}, api.OK)
}

// Promise 16.1: all numbers of a combination of three, written out.
func TestMergeWritten(t *testing.T) {
	c := func(x int64, f float64) api.Cell {
		abs := max(x, -x)
		return api.Cell{
			Key:   4,
			Count: 1,
			Ints:  []api.Whole{{Sum: x, Abs: abs, Squares: []uint32{uint32(abs * abs)}, Min: x, Max: x}},
			Nums:  []api.Real{{Sum: sumOf(f), Min: f, Max: f}},
		}
	}
	want := api.Cell{
		Key:   4,
		Count: 3,
		Ints:  []api.Whole{{Sum: 5, Abs: 15, Squares: []uint32{83}, Min: -5, Max: 7}},
		Nums:  []api.Real{{Sum: sumOf(0.1, minus0, 0), Min: minus0, Max: 0.1}},
	}
	checkMerge(t, [][]api.Cell{{c(3, 0)}, {c(-5, 0.1)}, {c(7, minus0)}}, []api.Cell{want}, api.OK)
	checkMerge(t, [][]api.Cell{{c(7, 0.1)}, {c(3, minus0)}, {c(-5, 0)}}, []api.Cell{want}, api.OK)
}

// strange returns a NaN that has these bits at its end.
func strange(bits int) float64 {
	return math.Float64frombits(0x7ff8000000000000 | uint64(bits))
}

// bitsOf returns the last bits of Min and Max of the only float of a cell.
func bitsOf(c api.Cell) [2]int {
	r := c.Nums[0]
	return [2]int{int(math.Float64bits(r.Min) & 0xffff), int(math.Float64bits(r.Max) & 0xffff)}
}

// float returns a cell of a float with these Min and Max.
func float(key uint64, low, high float64) api.Cell {
	return api.Cell{Key: key, Count: 1, Nums: []api.Real{{Sum: sumOf(1), Min: low, Max: high}}}
}

// Promise 16.1: cells with the same Key are combined in the order of the lists: of floats
// that are equal in the order, which only the bits of NaN tell, those of the first list
// that has the key are taken.
func TestMergeTakesTheFirst(t *testing.T) {
	for n := range 40 {
		// The lists begin at different keys, so that the heap has them in another order.
		var lists [][]api.Cell
		for i := range n {
			var l []api.Cell
			for k := uint64(i * 7 % 5); k < 12; k += 1 + uint64(i%3) {
				l = append(l, float(k, strange(i+1), strange(i+101)))
			}
			lists = append(lists, l)
		}
		want, errno := checkMergeDefined(t, lists)
		got, _ := tourney.Merge(lists)
		for i := range want {
			if errno != api.OK || bitsOf(got[i]) != bitsOf(want[i]) || bitsOf(got[i])[0]+100 != bitsOf(got[i])[1] {
				t.Fatalf("of %d lists the cell %d has Min and Max with %v; want %v", n, i, bitsOf(got[i]), bitsOf(want[i]))
			}
		}
	}
}

// Promise 16.1: the same, written out, for three lists with one key in each order, and
// where the first list has not the key.
func TestMergeTakesTheFirstWritten(t *testing.T) {
	a, b, c := float(5, strange(1), strange(11)), float(5, strange(2), strange(12)), float(5, strange(3), strange(13))
	other := float(2, -1, 1)
	for _, x := range []struct {
		lists [][]api.Cell
		want  [2]int
	}{
		{[][]api.Cell{{a}, {b}, {c}}, [2]int{1, 11}},
		{[][]api.Cell{{a}, {c}, {b}}, [2]int{1, 11}},
		{[][]api.Cell{{b}, {a}, {c}}, [2]int{2, 12}},
		{[][]api.Cell{{b}, {c}, {a}}, [2]int{2, 12}},
		{[][]api.Cell{{c}, {a}, {b}}, [2]int{3, 13}},
		{[][]api.Cell{{c}, {b}, {a}}, [2]int{3, 13}},
		{[][]api.Cell{{other}, {c}, {b}, {a}}, [2]int{3, 13}},
		{[][]api.Cell{{other, c}, {b}, {other, a}}, [2]int{3, 13}},
		{[][]api.Cell{{c}, {other, b}, {other, a}}, [2]int{3, 13}},
		{[][]api.Cell{nil, {b}, {other, c}, {a}}, [2]int{2, 12}},
		// One that comes first, or last, in the order counts wherever it stands.
		{[][]api.Cell{{a}, {float(5, 0, strange(12))}, {float(5, minus0, strange(13))}}, [2]int{0, 11}},
	} {
		got, errno := tourney.Merge(x.lists)
		if errno != api.OK || bitsOf(got[len(got)-1]) != x.want {
			t.Errorf("Merge(%v) has the error %d and %v; want %v", x.lists, errno, got, x.want)
		}
	}
}

// Promise 16.1: a sum that fits in one order of the cells and not in another: that of
// the lists counts.
func TestMergeInOrderOfLists(t *testing.T) {
	c := func(sum int64) []api.Cell { return []api.Cell{{Key: 1, Count: 1, Ints: []api.Whole{{Sum: sum}}}} }
	want := []api.Cell{{Key: 1, Count: 3, Ints: []api.Whole{{Sum: most}}}}
	checkMerge(t, [][]api.Cell{c(most), c(-1), c(1)}, want, api.OK)
	checkMerge(t, [][]api.Cell{c(-1), c(most), c(1)}, want, api.OK)
	checkMerge(t, [][]api.Cell{c(-1), c(1), c(most)}, want, api.OK)
	checkMerge(t, [][]api.Cell{c(1), c(-1), c(most)}, want, api.OK)
	checkMerge(t, [][]api.Cell{c(most), c(1), c(-1)}, nil, api.ErrOver)
	checkMerge(t, [][]api.Cell{c(1), c(most), c(-1)}, nil, api.ErrOver)
	// Lists that begin with other keys are combined in the same order.
	with := func(key uint64, sum int64) []api.Cell {
		return append([]api.Cell{{Key: key, Count: 1, Ints: []api.Whole{{}}}}, api.Cell{Key: 9, Count: 1, Ints: []api.Whole{{Sum: sum}}})
	}
	for k := range uint64(8) {
		for j := range uint64(8) {
			checkMerge(t, [][]api.Cell{with(k, most), with(j, 1), with(3, -1)}, nil, api.ErrOver)
			if _, errno := tourney.Merge([][]api.Cell{with(k, most), with(3, -1), with(j, 1)}); errno != api.OK {
				t.Errorf("lists from the keys %d and %d on have the error %d", k, j, errno)
			}
		}
	}
}

// Promise 16.1: Keys that are equal or decreasing in the first, a middle or the last
// list, or in all.
func TestMergeArg(t *testing.T) {
	for _, keys := range notIncreasing() {
		bad := keyed(keys...)
		checkMerge(t, [][]api.Cell{bad}, nil, api.ErrArg)
		for _, good := range [][]api.Cell{nil, keyed(0), keyed(5), keyed(math.MaxUint64), keyed(0, 1, 2, 3, 4, 5)} {
			for i := range 5 {
				lists := slices.Repeat([][]api.Cell{good}, 5)
				lists[i] = bad
				checkMerge(t, lists, nil, api.ErrArg)
			}
		}
		checkMerge(t, [][]api.Cell{bad, bad, bad}, nil, api.ErrArg)
	}
}

// Promise 16.1: the same at each place of a list.
func TestMergeArgInEachPlace(t *testing.T) {
	keys := []uint64{0, 2, 4, 6, 8, 10, 12, 14, 16, 18, 20, 22}
	for i := range keys[1:] {
		l, swapped := keyed(keys...), keyed(keys...)
		l[i+1].Key = l[i].Key
		swapped[i], swapped[i+1] = swapped[i+1], swapped[i]
		for _, other := range [][]api.Cell{nil, keyed(1), keyed(5, 11), keyed(100), keyed(keys...)} {
			for _, bad := range [][]api.Cell{l, swapped} {
				checkMerge(t, [][]api.Cell{bad, other, other}, nil, api.ErrArg)
				checkMerge(t, [][]api.Cell{other, bad, other}, nil, api.ErrArg)
				checkMerge(t, [][]api.Cell{other, other, bad}, nil, api.ErrArg)
			}
		}
	}
}

// Promise 16.1: cells of one key of which those before can be joined, and one cannot be
// joined with them.
func TestMergeClash(t *testing.T) {
	for _, c := range clashes() {
		for n := 2; n < 6; n++ {
			for i := range 4 {
				var lists [][]api.Cell
				for range n {
					lists = append(lists, plains(1, 3, 4, 9))
				}
				c.change(&lists[0][i], &lists[n-1][i])
				checkMerge(t, lists, nil, c.want)
				checkMerge(t, append(lists, plains(0, 5)), nil, c.want)
				// Without it, or with another Key, it is no reason.
				checkMergeDefined(t, lists[:n-1])
				lists[n-1][i].Key++
				if i == 3 {
					if _, errno := checkMergeDefined(t, lists); errno != api.OK {
						t.Errorf("cells that do not meet make the error %d", errno)
					}
				}
			}
		}
	}
}

// Promise 16.1: of cells that cannot be joined at two keys those of the smaller key
// decide, in whichever lists they are.
func TestMergeSmallerKey(t *testing.T) {
	for _, first := range clashes() {
		for _, second := range clashes() {
			for i := range 3 {
				for j := range 3 {
					lists := [][]api.Cell{plains(1, 3, 4, 9), plains(0, 3, 8, 9), plains(3, 9), plains(2, 3, 9)}
					first.change(&lists[0][1], place(lists[1+i], 3))
					second.change(&lists[0][3], place(lists[1+j], 9))
					checkMerge(t, lists, nil, first.want)
				}
			}
		}
	}
}

// place returns the cell of a list that has a Key.
func place(l []api.Cell, key uint64) *api.Cell {
	for i := range l {
		if l[i].Key == key {
			return &l[i]
		}
	}
	return nil
}

// Promise 16.1: of two cells of one key that both cannot be joined, the one of the list
// that comes first decides.
func TestMergeFirstList(t *testing.T) {
	bare := func(a, b *api.Cell) { b.Ints = nil }
	over := func(a, b *api.Cell) { b.Count = most }
	rot := func(a, b *api.Cell) { b.Nums[1].Sum = nil }
	for _, c := range []struct {
		first, second func(a, b *api.Cell)
		want          api.Errno
	}{
		{bare, over, api.ErrArg}, {bare, rot, api.ErrArg},
		{over, bare, api.ErrOver}, {over, rot, api.ErrOver},
		{rot, bare, api.ErrRot}, {rot, over, api.ErrRot},
	} {
		for _, lists := range [][][]api.Cell{
			{plains(5), plains(5), plains(5)},
			{plains(5), plains(1, 5), plains(5)},
			{plains(1, 5), plains(5), plains(2, 5)},
			{plains(1, 2, 5), plains(0, 5), plains(5, 7)},
		} {
			c.first(place(lists[0], 5), place(lists[1], 5))
			c.second(place(lists[0], 5), place(lists[2], 5))
			checkMerge(t, lists, nil, c.want)
			checkMerge(t, append(lists, plains(5), nil), nil, c.want)
		}
	}
}

// Promise 16.1: Keys that are not strictly increasing come before cells that cannot be
// joined, in whichever list they are.
func TestMergeArgFirst(t *testing.T) {
	for _, c := range clashes() {
		for i := range 4 {
			for _, bad := range [][]api.Cell{plains(20, 20), plains(20, 10), plains(0, 0), plains(5, 3, 4)} {
				lists := [][]api.Cell{plains(1, 3), plains(2, 3), plains(3, 4)}
				c.change(&lists[0][1], &lists[1][1])
				checkMerge(t, lists, nil, c.want)
				checkMerge(t, slices.Insert(lists, i, bad), nil, api.ErrArg)
			}
		}
	}
}

// Promise 16.1: cells that are not valid are returned as they are, or combined.
func TestMergeNotValid(t *testing.T) {
	strangers := []api.Cell{
		{Key: 3}, {Key: 3, Count: -7}, {Key: 3, Count: 1, Ints: []api.Whole{{Sum: 5, Abs: -5, Squares: []uint32{1, 0}, Min: 2, Max: 1}}},
		{Key: 3, Count: 1, Nums: []api.Real{{Min: 1, Max: 0}}}, {Key: 3, Nums: []api.Real{{Sum: []byte{64, 0, 0}}}},
		{Key: 3, Count: 1, Ints: make([]api.Whole, 20), Nums: make([]api.Real, 20)},
	}
	for _, c := range strangers {
		checkMerge(t, [][]api.Cell{{c}}, []api.Cell{c}, api.OK)
		checkMerge(t, [][]api.Cell{plains(1, 4), {c}, nil, plains(2)}, []api.Cell{plain(1), plain(2), c, plain(4)}, api.OK)
		checkMergeDefined(t, [][]api.Cell{{c}, {c}, {c}})
		checkMergeDefined(t, [][]api.Cell{{c}, plains(3)})
	}
}

// Promise 16.1: mixed lists, also with errors.
func TestMergeMixed(t *testing.T) {
	m := mixer(3)
	count := map[api.Errno]int{}
	for range 6000 {
		lists := m.lists(m.below(12))
		for range m.below(4) {
			if l := append(lists, nil)[m.below(len(lists)+1)]; len(l) > 0 {
				m.spoil(&l[m.below(len(l))])
			}
		}
		_, errno := checkMergeDefined(t, lists)
		count[errno]++
	}
	for _, errno := range []api.Errno{api.OK, api.ErrArg, api.ErrOver, api.ErrRot} {
		if count[errno] < 100 {
			t.Errorf("only %d mixed lists have the error %d", count[errno], errno)
		}
	}
}
