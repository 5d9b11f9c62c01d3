package cells_test

import (
	"slices"
	"testing"

	"bushel/api"
	"bushel/cells"
)

// fold returns what Fold does, which must not be an error.
func fold(t *testing.T, s api.Schema, mask uint32, l []api.Fact) []api.Cell {
	t.Helper()
	got, errno := cells.Fold(s, mask, l)
	if errno != api.OK {
		t.Fatalf("Fold has the error %d", errno)
	}
	return got
}

// merge returns what Merge does, which must not be an error.
func merge(t *testing.T, a, b []api.Cell) []api.Cell {
	t.Helper()
	got, errno := cells.Merge(a, b)
	if errno != api.OK {
		t.Fatalf("Merge has the error %d", errno)
	}
	return got
}

// roll returns what Roll does, which must not be an error.
func roll(t *testing.T, s api.Schema, from, to uint32, l []api.Cell) []api.Cell {
	t.Helper()
	got, errno := cells.Roll(s, from, to, l)
	if errno != api.OK {
		t.Fatalf("Roll has the error %d", errno)
	}
	return got
}

// part divides facts into two lists, in one of several ways.
func (m *mixer) part(l []api.Fact) ([]api.Fact, []api.Fact) {
	if m.below(2) == 0 {
		i := of(m, []int{0, len(l), m.below(len(l) + 1)})
		return l[:i], l[i:]
	}
	var a, b []api.Fact
	for _, f := range l {
		if m.below(2) == 0 {
			a = append(a, f)
		} else {
			b = append(b, f)
		}
	}
	return a, b
}

// Promise 15.5: the folds of two parts, merged in either order, are the fold of all.
func TestFoldByParts(t *testing.T) {
	m := mixer(21)
	for range 1500 {
		s := of(&m, samples())
		mask := of(&m, sets(s))
		l := m.facts(s, m.below(30))
		a, b := m.part(l)
		want := fold(t, s, mask, l)
		first, second := fold(t, s, mask, a), fold(t, s, mask, b)
		checkMerge(t, first, second, want, api.OK)
		checkMerge(t, second, first, want, api.OK)
		checkRight(t, s, mask, want, true)
	}
}

// Promise 15.5: the same with as many facts as there may be, in the reverse order, and
// fact by fact.
func TestFoldOneByOne(t *testing.T) {
	m := mixer(22)
	for range 20 {
		s := of(&m, samples())
		mask := of(&m, sets(s))
		l := m.facts(s, 200)
		want := fold(t, s, mask, l)
		slices.Reverse(l)
		checkFold(t, s, mask, l, want, api.OK)
		var got []api.Cell
		for _, f := range l {
			got = merge(t, fold(t, s, mask, []api.Fact{f}), got)
		}
		checkList(t, got, api.OK, want, api.OK, "Merge of the folds of single facts")
	}
}

// Promise 15.5: floats whose rounded sums would depend on the order.
func TestFoldFloatsByParts(t *testing.T) {
	s := made(0, 1, 1)
	for _, x := range [][]float64{{0.1, 0.2, -0.3}, {1 << 53, 1, -1 << 53}, {1, 1e100, -1e100}, {minus0, 0, minus0}, {infinity, -infinity, nan}} {
		var l []api.Fact
		for _, x := range x {
			l = append(l, api.Fact{Codes: []int{0}, Nums: []float64{x}})
		}
		want := []api.Cell{{Count: 3, Nums: []api.Real{{Sum: sumOf(x...), Min: slices.MinFunc(x, before), Max: slices.MaxFunc(x, before)}}}}
		checkFold(t, s, 1, l, want, api.OK)
		for i := range 3 {
			one, two := fold(t, s, 1, l[i:i+1]), fold(t, s, 1, slices.Concat(l[:i], l[i+1:]))
			checkMerge(t, one, two, want, api.OK)
			checkMerge(t, two, one, want, api.OK)
		}
	}
}

// before compares two floats in the order of layer 3.
func before(a, b float64) int {
	rank := func(x float64) int {
		switch {
		case x != x:
			return 2
		case x == 0 && 1/x > 0:
			return 1
		}
		return 0
	}
	switch {
	case a < b:
		return -1
	case a > b:
		return 1
	}
	return rank(a) - rank(b)
}

// Promise 15.5: rolling up in two steps is the same as in one, through each set between,
// and what the facts are folded to.
func TestRollInTwoSteps(t *testing.T) {
	m := mixer(23)
	for range 400 {
		s := of(&m, samples())
		l := m.facts(s, m.below(40))
		from := of(&m, sets(s))
		between := from & m.word()
		to := between & m.word()
		top := fold(t, s, from, l)
		want := fold(t, s, to, l)
		checkRoll(t, s, from, to, top, want, api.OK)
		checkRoll(t, s, between, to, roll(t, s, from, between, top), want, api.OK)
	}
}

// Promise 15.5: the same for lists of cells that are not those of facts, through all
// sets.
func TestRollThroughAllSets(t *testing.T) {
	m := mixer(24)
	s := plainSchema()
	l := m.list(s, 7, 40)
	for _, from := range sets(s) {
		top := roll(t, s, 7, from, l)
		for _, between := range sets(s) {
			for _, to := range sets(s) {
				if from|between == from && between|to == between {
					checkRoll(t, s, between, to, roll(t, s, from, between, top), roll(t, s, from, to, top), api.OK)
				}
			}
		}
	}
}

// Promise 15.5: merging and rolling up in either order, and merging in either order.
func TestMergeAndRoll(t *testing.T) {
	m := mixer(25)
	for range 1000 {
		s := of(&m, samples())
		from := of(&m, sets(s))
		to := from & m.word()
		a, b := m.list(s, from, m.below(20)), m.list(s, from, m.below(20))
		merged := merge(t, a, b)
		checkMerge(t, b, a, merged, api.OK)
		want := roll(t, s, from, to, merged)
		checkMerge(t, roll(t, s, from, to, a), roll(t, s, from, to, b), want, api.OK)
		checkMerge(t, roll(t, s, from, to, b), roll(t, s, from, to, a), want, api.OK)
	}
}

// Promise 15.5: three lists, merged in each way.
func TestMergeThree(t *testing.T) {
	m := mixer(26)
	for range 500 {
		s := of(&m, samples())
		mask := of(&m, sets(s))
		a, b, c := m.list(s, mask, m.below(10)), m.list(s, mask, m.below(10)), m.list(s, mask, m.below(10))
		want := merge(t, merge(t, a, b), c)
		checkMerge(t, a, merge(t, b, c), want, api.OK)
		checkMerge(t, b, merge(t, c, a), want, api.OK)
		checkMerge(t, merge(t, b, a), c, want, api.OK)
	}
}
