package lattice_test

import (
	"slices"
	"testing"

	"bushel/api"
	"bushel/lattice"
)

// fill writes x over a list, and over what stands behind it in its memory.
func fill[E any](l []E, x E) {
	l = l[:cap(l)]
	for i := range l {
		l[i] = x
	}
}

// extend returns the same list, with x behind its end in its memory.
func extend[E any](l []E, x E) []E {
	return slices.Concat(l, []E{x, x})[:len(l)]
}

// checkKept fails if a list that extend has returned is not the same as l any more, with
// what is behind it.
func checkKept[E comparable](t *testing.T, l, is []E, x E) {
	t.Helper()
	if !slices.Equal(l, is) || is[:len(is)+1][len(is)] != x {
		t.Fatalf("%v became %v", l, is)
	}
}

// R4 for 17.2 and 17.4: Order and Close do not change the list, or what is behind it,
// and do not keep it: the results stay as they are when the list changes.
func TestListsAreNotKept(t *testing.T) {
	m := mixer(21)
	for range 1000 {
		l := m.list(m.below(16))
		is := extend(l, 77)
		order := lattice.Order(is)
		closed, errno := lattice.Close(is)
		checkKept(t, l, is, 77)
		orderWas, closedWas := slices.Clone(order), slices.Clone(closed)
		fill(is, 99)
		checkSets(t, order, api.OK, orderWas, api.OK, "Order, after the list changed")
		checkSets(t, closed, errno, closedWas, errno, "Close, after the list changed")
		checkOrder(t, l, orderWas...)
	}
}

// R4 for 17.3: Cover and Steps do not change the views and the sizes, or what is behind
// them, and do not keep them.
func TestViewsAreNotKept(t *testing.T) {
	m := mixer(22)
	for range 1000 {
		views, sizes := m.list(m.below(16)), m.sizes(m.below(16))
		isViews, isSizes := extend(views, full), extend(sizes, -77)
		need := m.set()
		checkCover(t, isViews, isSizes, need, defineCover(views, sizes, need))
		steps := lattice.Steps(isViews, isSizes)
		checkKept(t, views, isViews, full)
		checkKept(t, sizes, isSizes, -77)
		fill(isViews, 0)
		fill(isSizes, 5)
		if want := defineSteps(views, sizes); !slices.Equal(steps, want) {
			t.Fatalf("Steps is %v after the views changed; it was %v", steps, want)
		}
		checkSteps(t, views, sizes, steps...)
	}
}

// R4: what Between, Order, Steps and Close return belongs to the caller: changing it
// changes neither the arguments nor other results.
func TestResultsAreNew(t *testing.T) {
	views, sizes := []uint32{7, 3, 5}, []int{9, 4, 2}
	between, _ := lattice.Between(2, 7)
	order, steps := lattice.Order(views), lattice.Steps(views, sizes)
	closed, _ := lattice.Close(views)
	for range 3 {
		otherBetween, _ := lattice.Between(2, 7)
		otherClosed, _ := lattice.Close(views)
		fill(otherBetween, 99)
		fill(otherClosed, 99)
		fill(lattice.Order(views), 99)
		fill(lattice.Steps(views, sizes), 99)
	}
	checkSets(t, between, api.OK, []uint32{2, 3, 6, 7}, api.OK, "Between, after another one changed")
	checkSets(t, order, api.OK, []uint32{7, 3, 5}, api.OK, "Order, after another one changed")
	checkSets(t, closed, api.OK, []uint32{1, 3, 5, 7}, api.OK, "Close, after another one changed")
	if !slices.Equal(steps, []int{-1, 0, 0}) {
		t.Errorf("Steps became %v after another one changed", steps)
	}
	if !slices.Equal(views, []uint32{7, 3, 5}) || !slices.Equal(sizes, []int{9, 4, 2}) {
		t.Errorf("the arguments became %v, %v", views, sizes)
	}
}

// R4: lists that are in order, without duplicates and closed already are returned in
// memory of their own.
func TestOrderedListsAreCopied(t *testing.T) {
	ordered := []uint32{7, 3, 5, 1}
	fill(lattice.Order(ordered), 99)
	checkSets(t, ordered, api.OK, []uint32{7, 3, 5, 1}, api.OK, "the list of Order")
	closed := []uint32{1, 3, 5, 7}
	got, _ := lattice.Close(closed)
	fill(got, 99)
	checkSets(t, closed, api.OK, []uint32{1, 3, 5, 7}, api.OK, "the list of Close")
	one := []uint32{9}
	fill(lattice.Order(one), 99)
	got, _ = lattice.Close(one)
	fill(got, 99)
	checkSets(t, one, api.OK, []uint32{9}, api.OK, "the list of one set")
}

// R5: what was asked before makes no difference, with errors in between.
func TestAskedAgain(t *testing.T) {
	views, sizes := []uint32{7, 3, 5}, []int{9, 4, 2}
	for range 3 {
		checkBetween(t, 2, 7, 2, 3, 6, 7)
		checkBetweenFails(t, 2, 5, api.ErrArg)
		checkBetweenFails(t, 2, 0x3fff, api.ErrMany)
		checkBetween(t, 5, 7, 5, 7)
		checkOrder(t, views, 7, 3, 5)
		checkOrder(t, nil)
		checkOrder(t, []uint32{4, 5}, 5, 4)
		checkCover(t, views, sizes, 1, 2)
		checkCover(t, views, nil, 1, 0)
		checkCover(t, views, sizes, 8, -1)
		checkSteps(t, views, sizes, -1, 0, 0)
		checkSteps(t, views[1:], sizes, -1, -1)
		checkClose(t, views, 1, 3, 5, 7)
		checkCloseFails(t, subsets(4))
		checkClose(t, views[1:], 1, 3, 5)
		checkClose(t, nil)
	}
}
