package advise_test

import (
	"slices"
	"testing"

	"bushel/advise"
	"bushel/api"
)

// fill writes x over a list, and over what stands behind it in its memory.
func fill[E any](l []E, x E) {
	l = l[:cap(l)]
	for i := range l {
		l[i] = x
	}
}

// extend returns the same list, with x behind its end in its memory.
func extend[E any](l []E, x E) []E {
	return slices.Concat(l, []E{x, x})[:len(l)]
}

// checkKept fails if a list that extend has returned is not the same as l any more, with
// what is behind it.
func checkKept[E comparable](t *testing.T, l, is []E, x E) {
	t.Helper()
	if !slices.Equal(l, is) || is[:len(is)+1][len(is)] != x {
		t.Fatalf("%v became %v", l, is)
	}
}

// R4 for 18.1 and 18.2: Cost, Gain and Choose do not change the sizes and the views, or
// what is behind them, and do not keep them: the result of Choose stays as it is when
// the sizes change.
func TestArgumentsAreNotKept(t *testing.T) {
	m := mixer(21)
	for range 500 {
		dims := m.below(6) + 1
		sizes, views := m.sizes(dims), m.views(dims, m.below(9))
		k := m.below(8)
		isSizes, isViews := extend(sizes, -77), extend(views, full)
		checkCost(t, dims, isSizes, isViews, defineCost(dims, sizes, views))
		chosen, errno := advise.Choose(dims, isSizes, k)
		checkKept(t, sizes, isSizes, -77)
		checkKept(t, views, isViews, full)
		was := slices.Clone(chosen)
		fill(isSizes, 1)
		fill(isViews, 0)
		if errno != api.OK || !slices.Equal(chosen, was) {
			t.Fatalf("Choose was %d, with the error %d, and is %d after the sizes changed", was, errno, chosen)
		}
		checkChoose(t, dims, isSizes, k)
		checkChoose(t, dims, sizes, k, was...)
		checkCost(t, dims, sizes, views, defineCost(dims, sizes, views))
	}
}

// R4: arguments that are wrong are not changed either.
func TestWrongArgumentsAreNotChanged(t *testing.T) {
	for _, wrong := range [][]int64{{1, 9, 3}, {9, 0}, {0, 9}, {9}} {
		sizes, views := extend(wrong, -77), extend([]uint32{0, high, 1}, full)
		checkAllFail(t, 1, sizes, defineErrno(1, sizes, nil))
		checkFails(t, 1, sizes, views, defineErrno(1, sizes, nil))
		checkFails(t, 1, []int64{1, 9}, views, api.ErrNone)
		checkKept(t, wrong, sizes, -77)
		checkKept(t, []uint32{0, high, 1}, views, full)
	}
}

// R4: what Choose returns belongs to the caller: changing it changes neither the sizes
// nor other results.
func TestResultsAreNew(t *testing.T) {
	sizes := []int64{1, 3, 2, 10}
	first, _ := advise.Choose(2, sizes, 3)
	for k := range 5 {
		other, _ := advise.Choose(2, sizes, k)
		fill(other, 99)
		if !slices.Equal(first, []uint32{2, 1, 0}) {
			t.Fatalf("Choose became %d after another one changed", first)
		}
	}
	fill(first, 99)
	checkChoose(t, 2, sizes, 3, 2, 1, 0)
	checkChoose(t, 2, []int64{1, 3, 2, 10}, 3, 2, 1, 0)
	if !slices.Equal(sizes, []int64{1, 3, 2, 10}) {
		t.Errorf("the sizes became %d", sizes)
	}
}

// R5: what was asked before makes no difference, with errors in between.
func TestAskedAgain(t *testing.T) {
	sizes := []int64{1, 3, 2, 10}
	for range 3 {
		checkChoose(t, 2, sizes, 2, 2, 1)
		checkAllFail(t, 2, sizes[1:], api.ErrMany)
		checkCost(t, 2, sizes, []uint32{1}, 26)
		checkFails(t, 2, sizes, []uint32{1, 4}, api.ErrNone)
		checkCost(t, 2, sizes, nil, 40)
		checkAllFail(t, 7, sizes, api.ErrRange)
		checkChoose(t, 2, sizes, 0)
		checkChoose(t, 1, sizes[1:3], 2)
		checkChoose(t, 1, []int64{1, 9}, 2, 0)
		checkCost(t, 2, sizes, []uint32{2, 1}, 2+3+2+10)
	}
}
