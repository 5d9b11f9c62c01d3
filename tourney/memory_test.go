package tourney_test

import (
	"bytes"
	"math"
	"slices"
	"testing"

	"bushel/agg"
	"bushel/api"
	"bushel/tourney"
)

// fill writes x over a list, and over what stands behind it in its memory.
func fill[E any](l []E, x E) {
	l = l[:cap(l)]
	for i := range l {
		l[i] = x
	}
}

// overwrite writes over all lists of a cell, and over what is behind them.
func overwrite(c api.Cell) {
	for _, w := range c.Ints {
		fill(w.Squares, 77)
	}
	for _, r := range c.Nums {
		fill(r.Sum, 77)
	}
	fill(c.Ints, api.Whole{Sum: 77})
	fill(c.Nums, api.Real{Max: 77})
}

// overwriteAll writes over all cells of a list.
func overwriteAll(l []api.Cell) {
	for _, c := range l {
		overwrite(c)
	}
	fill(l, api.Cell{Key: 77, Count: 77})
}

// extend returns the same list, with x behind its end in its memory.
func extend[E any](l []E, x E) []E {
	return slices.Concat(l, []E{x, x})[:len(l)]
}

// behind returns the same cells with lists that have more elements behind their ends.
func behind(l []api.Cell) []api.Cell {
	l = cloneAll(l)
	for _, c := range l {
		for i := range c.Ints {
			c.Ints[i].Squares = extend(c.Ints[i].Squares, 7)
		}
		for i := range c.Nums {
			c.Nums[i].Sum = extend(c.Nums[i].Sum, 8)
		}
	}
	for i := range l {
		l[i].Ints, l[i].Nums = extend(l[i].Ints, api.Whole{Sum: 9}), extend(l[i].Nums, api.Real{Max: 10})
	}
	return extend(l, api.Cell{Key: 11})
}

// behindAll returns the same lists, each as behind does, with another one behind their
// end.
func behindAll(lists [][]api.Cell) [][]api.Cell {
	var all [][]api.Cell
	for _, l := range lists {
		all = append(all, behind(l))
	}
	return extend(all, keyed(12))
}

// unchanged reports whether a list that behind has returned is still the same as l, to
// the last bit of each NaN, with what is behind its lists.
func unchanged(l, is []api.Cell) bool {
	ok := defineSame(l, is) && is[:len(is)+1][len(is)].Key == 11
	for i, c := range is {
		n, m := len(c.Ints), len(c.Nums)
		ok = ok && c.Ints[:n+1][n].Sum == 9 && c.Nums[:m+1][m].Max == 10
		for _, w := range c.Ints {
			ok = ok && w.Squares[:len(w.Squares)+1][len(w.Squares)] == 7
		}
		for j, r := range c.Nums {
			was := l[i].Nums[j]
			ok = ok && r.Sum[:len(r.Sum)+1][len(r.Sum)] == 8 &&
				math.Float64bits(r.Min) == math.Float64bits(was.Min) && math.Float64bits(r.Max) == math.Float64bits(was.Max)
		}
	}
	return ok
}

// allUnchanged reports whether lists that behindAll has returned are still the same.
func allUnchanged(lists, is [][]api.Cell) bool {
	return slices.EqualFunc(lists, is, unchanged) && defineSame(is[:len(is)+1][len(is)], keyed(12))
}

// R4 for 16.1: Merge changes neither the lists nor the cells, or what is behind them,
// with an error or without.
func TestMergeChangesNothing(t *testing.T) {
	m := mixer(21)
	for range 1000 {
		lists := m.lists(m.below(8))
		if l := append(lists, nil)[m.below(len(lists)+1)]; len(l) > 0 && m.below(2) == 0 {
			m.spoil(&l[m.below(len(l))])
		}
		is := behindAll(lists)
		tourney.Merge(is)
		if !allUnchanged(lists, is) {
			t.Fatalf("%v became %v", lists, is)
		}
	}
}

// R4 for 16.1: Merge keeps nothing of the lists and the cells, and its result is not of
// that memory: also cells that are not combined with others.
func TestMergeKeepsNothing(t *testing.T) {
	m := mixer(22)
	for range 500 {
		lists := m.lists(m.below(8))
		want, wanted := defineMerge(lists)
		is := behindAll(lists)
		got, errno := tourney.Merge(is)
		for _, l := range is {
			overwriteAll(l)
		}
		fill(is, nil)
		checkList(t, got, errno, want, wanted, "Merge, after the lists changed")
		is = cloneLists(lists)
		got, _ = tourney.Merge(is)
		overwriteAll(got)
		if !slices.EqualFunc(lists, is, defineSame) {
			t.Fatalf("the result shares memory with %v", lists)
		}
		checkMerge(t, is, want, wanted)
	}
}

// checkApart fails if changing one list of what Merge returns changes another one of it,
// or of another result.
func checkApart(t *testing.T, lists [][]api.Cell) {
	t.Helper()
	call := func() []api.Cell {
		l, errno := tourney.Merge(lists)
		if errno != api.OK {
			t.Fatalf("Merge has the error %d", errno)
		}
		return l
	}
	before, other := cloneAll(call()), call()
	for i, c := range before {
		changes := []func(c api.Cell){func(c api.Cell) { fill(c.Ints, api.Whole{Sum: 77}) }, func(c api.Cell) { fill(c.Nums, api.Real{Max: 77}) }}
		for j := range c.Ints {
			changes = append(changes, func(c api.Cell) { fill(c.Ints[j].Squares, 77) })
		}
		for j := range c.Nums {
			changes = append(changes, func(c api.Cell) { fill(c.Nums[j].Sum, 77) })
		}
		for _, change := range changes {
			got, want := call(), cloneAll(before)
			change(got[i])
			change(want[i])
			if !slices.EqualFunc(got, want, agg.Same) {
				t.Fatalf("two lists of %v share memory", before)
			}
		}
	}
	overwriteAll(call())
	if !slices.EqualFunc(other, before, agg.Same) {
		t.Fatalf("two results share memory: %v", before)
	}
}

// R4 for 16.1: what Merge returns belongs to the caller, and no two lists of it share
// memory.
func TestMergedIsNew(t *testing.T) {
	m := mixer(23)
	for n := range 7 {
		for range 6 {
			checkApart(t, m.lists(n))
		}
	}
}

// R4 for 16.1: cells and lists that share their memory with each other stay as they are,
// and what is returned of them does not share any.
func TestMergeShared(t *testing.T) {
	one := plain(0)
	l := slices.Repeat([]api.Cell{one}, 3)
	l[1].Key, l[2].Key = 5, 17
	checkApart(t, [][]api.Cell{l})
	checkApart(t, [][]api.Cell{l, l})
	checkApart(t, [][]api.Cell{l[:1], l[1:2], l[2:]})
	checkApart(t, [][]api.Cell{l[1:], l, l[:2], nil, l[1:2]})
	checkMerge(t, [][]api.Cell{l[1:], l, l[:2], nil, l[1:2]}, []api.Cell{times(2, 0), times(4, 5), times(2, 17)}, api.OK)
	if !defineSame(l, plains(0, 5, 17)) || !agg.Same(one, plain(0)) {
		t.Errorf("the cells became %v", l)
	}
}

// R4 for 16.2: Least and Sort change neither the list nor its byte strings, or what is
// behind them; and their results do not hang on what becomes of them.
func TestLeastKeepsNothing(t *testing.T) {
	m := mixer(24)
	for range 300 {
		l := m.mixedBytes(m.below(30))
		var is [][]byte
		for _, b := range l {
			is = append(is, extend(b, 7))
		}
		is = extend(is, []byte{8})
		k := m.below(30)
		first, sorted := tourney.Least(is, k), tourney.Sort(is)
		ok := slices.EqualFunc(l, is, bytes.Equal) && bytes.Equal(is[:len(is)+1][len(is)], []byte{8})
		for _, b := range is {
			ok = ok && b[:len(b)+1][len(b)] == 7
		}
		if !ok {
			t.Fatalf("%v became %v", l, is)
		}
		for _, b := range is {
			fill(b, 9)
		}
		fill(is, nil)
		checkIndexes(t, first, defineLeast(l, k), "Least", l, k)
		checkIndexes(t, sorted, defineSort(l), "Sort", l)
	}
}

// R4 for 16.2: what Least and Sort return belongs to the caller: changing it changes no
// other result.
func TestIndexesAreNew(t *testing.T) {
	l := texts("b", "a", "b", "aa")
	first, sorted := tourney.Least(l, 3), tourney.Sort(l)
	for _, k := range []int{0, 1, 3, 4, 9} {
		fill(tourney.Least(l, k), 77)
		fill(tourney.Sort(l), 77)
	}
	checkIndexes(t, first, []int{1, 3, 0}, "Least", l)
	checkIndexes(t, sorted, []int{1, 3, 0, 2}, "Sort", l)
	fill(first, 77)
	checkSorted(t, l, 1, 3, 0, 2)
}

// R5: what was asked before makes no difference, with errors in between.
func TestAskedAgain(t *testing.T) {
	lists := [][]api.Cell{plains(1, 4), plains(4, 7), plains(0, 4)}
	want := []api.Cell{plain(0), plain(1), times(3, 4), plain(7)}
	l := texts("b", "a", "b", "aa")
	for range 3 {
		checkMerge(t, lists, want, api.OK)
		checkMerge(t, append(lists, keyed(5, 5)), nil, api.ErrArg)
		checkMerge(t, append(lists, keyed(4)), nil, api.ErrArg)
		checkMerge(t, nil, nil, api.OK)
		checkMerge(t, lists[1:], []api.Cell{plain(0), times(2, 4), plain(7)}, api.OK)
		checkLeast(t, l, 2, 1, 3)
		checkLeast(t, l[1:], 2, 0, 2)
		checkLeast(t, l, 0)
		checkSorted(t, l, 1, 3, 0, 2)
		checkSorted(t, nil)
	}
}
