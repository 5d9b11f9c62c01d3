package tourney_test

import (
	"slices"
	"testing"

	"bushel/api"
	"bushel/cells"
	"bushel/tourney"
)

// oneByOne returns what merging lists one after the other yields, from the first on or,
// where it is said, from the last on.
func oneByOne(t *testing.T, lists [][]api.Cell, back bool) []api.Cell {
	t.Helper()
	var all []api.Cell
	for i := range lists {
		a, b := all, lists[i]
		if back {
			a, b = lists[len(lists)-1-i], all
		}
		var errno api.Errno
		if all, errno = cells.Merge(a, b); errno != api.OK {
			t.Fatalf("cells.Merge has the error %d", errno)
		}
	}
	return all
}

// Promise 16.3: merging lists at once is the same as one after the other.
func TestMergeAtOnce(t *testing.T) {
	m := mixer(11)
	for range 2000 {
		lists := m.lists(m.below(12))
		checkMerge(t, lists, oneByOne(t, lists, false), api.OK)
		checkMerge(t, lists, oneByOne(t, lists, true), api.OK)
		// In another order of the lists too.
		want, _ := tourney.Merge(lists)
		mix(&m, lists)
		checkMerge(t, lists, want, api.OK)
	}
}

// Promise 16.3: the same where most keys are in many lists, and with many lists.
func TestMergeManyAtOnce(t *testing.T) {
	m := mixer(12)
	for _, n := range []int{1, 2, 50, 300} {
		var lists [][]api.Cell
		for range n {
			lists = append(lists, m.list(8, 1, 1))
		}
		checkMerge(t, lists, oneByOne(t, lists, false), api.OK)
	}
}

// Promise 16.3: the same to the last bit, where the order of the lists shows.
func TestMergeAtOnceInOrder(t *testing.T) {
	m := mixer(13)
	for range 300 {
		var lists [][]api.Cell
		for i := range 2 + m.below(10) {
			var l []api.Cell
			for k := range uint64(5) {
				if m.below(3) > 0 {
					l = append(l, float(k, strange(i+1), strange(i+101)))
				}
			}
			lists = append(lists, l)
		}
		got, errno := tourney.Merge(lists)
		want := oneByOne(t, lists, false)
		if errno != api.OK || !slices.EqualFunc(got, want, func(a, b api.Cell) bool { return a.Key == b.Key && bitsOf(a) == bitsOf(b) }) {
			t.Fatalf("Merge(%v) has the error %d and %v; want %v", lists, errno, got, want)
		}
	}
}

// Promise 16.3: merging merged lists is the same as merging all of them.
func TestMergeByParts(t *testing.T) {
	m := mixer(14)
	for range 500 {
		lists := m.lists(1 + m.below(10))
		want, _ := tourney.Merge(lists)
		i := m.below(len(lists))
		a, _ := tourney.Merge(lists[:i])
		b, _ := tourney.Merge(lists[i:])
		checkMerge(t, [][]api.Cell{a, b}, want, api.OK)
		checkMerge(t, append([][]api.Cell{a}, lists[i:]...), want, api.OK)
		checkMerge(t, append(slices.Clone(lists[:i]), b), want, api.OK)
	}
}

// Promise 16.3: the folds of facts, merged at once, are the fold of all facts.
func TestMergeFolds(t *testing.T) {
	m := mixer(15)
	s := api.Schema{Dims: []api.Dim{{Name: "a", Size: 3}, {Name: "b", Size: 4}}, Ints: []string{"m"}, Nums: []string{"x"}}
	for range 200 {
		parts := make([][]api.Fact, 1+m.below(8))
		var all []api.Fact
		for range m.below(100) {
			f := api.Fact{Codes: []int{m.below(3), m.below(4)}, Ints: []int64{int64(m.long()) >> 10}, Nums: []float64{of(&m, floats())}}
			all = append(all, f)
			i := m.below(len(parts))
			parts[i] = append(parts[i], f)
		}
		for mask := range uint32(4) {
			var lists [][]api.Cell
			for _, p := range parts {
				l, _ := cells.Fold(s, mask, p)
				lists = append(lists, l)
			}
			want, errno := cells.Fold(s, mask, all)
			checkMerge(t, lists, want, errno)
			if !cells.Right(s, mask, want) {
				t.Fatalf("%v is not valid", want)
			}
		}
	}
}

// Promise 16.3: an element that is not among the first k has at least k elements before
// it; and one that is among them has fewer.
func TestLeastLeavesTheRest(t *testing.T) {
	m := mixer(16)
	for range 400 {
		l := m.mixedBytes(m.below(40))
		for _, k := range []int{-1, 0, 1, 2, m.below(40), len(l) - 1, len(l), len(l) + 1} {
			first := tourney.Least(l, k)
			for i := range l {
				before := defineBefore(l, i)
				if slices.Contains(first, i) != (before < k) {
					t.Fatalf("Least(%v, %d) is %v, and %d has %d elements before it", l, k, first, i, before)
				}
			}
			if len(first) != max(0, min(k, len(l))) {
				t.Fatalf("Least(%v, %d) is %v", l, k, first)
			}
		}
	}
}

// Promise 16.3: the first k of the first n are the first k of all, for each n from k on;
// and Sort has all of them.
func TestLeastOfLeast(t *testing.T) {
	m := mixer(17)
	for range 100 {
		l := m.mixedBytes(m.below(30))
		sorted := tourney.Sort(l)
		for n := range len(l) + 1 {
			first := tourney.Least(l, n)
			checkIndexes(t, first, sorted[:n], "Least", l, n)
			var kept [][]byte
			for _, i := range slices.Sorted(slices.Values(first)) {
				kept = append(kept, l[i])
			}
			for k := range n + 1 {
				var want [][]byte
				for _, i := range sorted[:k] {
					want = append(want, l[i])
				}
				for j, i := range tourney.Least(kept, k) {
					if string(kept[i]) != string(want[j]) {
						t.Fatalf("the first %d of the first %d of %v differ at %d", k, n, l, j)
					}
				}
			}
		}
	}
}
