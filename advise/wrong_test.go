package advise_test

import (
	"math"
	"slices"
	"testing"

	"bushel/advise"
	"bushel/api"
)

// wrongDims are numbers of dimensions that are not from 1 to 6.
var wrongDims = []int{0, 7, 8, 31, 32, 33, 63, 64, 65, 1 << 32, 1<<32 + 1, math.MaxInt, -1, -2, -6, -63, -64, math.MinInt, math.MinInt + 1}

// wrongSizes are sizes that are not from 1 to MaxKeys.
var wrongSizes = []int64{0, -1, -2, large + 1, 2 * large, -large, math.MaxInt64, math.MinInt64}

// Promises 18.1 and 18.2: from 1 to 6 dimensions there is no error, with sizes of 1 and
// of MaxKeys.
func TestNoError(t *testing.T) {
	for dims := 1; dims <= 6; dims++ {
		for _, size := range []int64{1, 2, large - 1, large} {
			checkCost(t, dims, equalSizes(dims, size), subsets(dims), size<<dims)
			checkChoose(t, dims, equalSizes(dims, size), 3)
		}
	}
	if large != api.MaxKeys {
		t.Errorf("MaxKeys is %d", api.MaxKeys)
	}
}

// Promises 18.1 and 18.2: numbers of dimensions that are not from 1 to 6, with the sizes
// of so many dimensions where there could be such, and with others.
func TestWrongDims(t *testing.T) {
	for _, dims := range wrongDims {
		for n := range 9 {
			checkAllFail(t, dims, equalSizes(n, 5), api.ErrRange)
		}
		checkAllFail(t, dims, nil, api.ErrRange)
	}
}

// Promises 18.1 and 18.2: one size too few, one too many, none, and others.
func TestWrongNumberOfSizes(t *testing.T) {
	for dims := 1; dims <= 6; dims++ {
		for n := range 140 {
			if n != 1<<dims {
				checkAllFail(t, dims, slices.Repeat([]int64{5}, n), api.ErrMany)
			}
		}
		checkAllFail(t, dims, nil, api.ErrMany)
		checkAllFail(t, dims, slices.Repeat([]int64{5}, 1<<16+1<<dims), api.ErrMany)
		// What is behind the end of the list in its memory does not count.
		checkAllFail(t, dims, equalSizes(dims, 5)[:1<<dims-1], api.ErrMany)
		checkAllFail(t, dims, equalSizes(dims, 5)[1:], api.ErrMany)
		checkAllFail(t, dims, equalSizes(dims, 5)[:0], api.ErrMany)
	}
}

// Promises 18.1 and 18.2: a size that is not from 1 to MaxKeys, at each place.
func TestWrongSizes(t *testing.T) {
	for dims := 1; dims <= 6; dims++ {
		for i := range 1 << dims {
			for _, size := range wrongSizes {
				checkAllFail(t, dims, changed(equalSizes(dims, 5), i, size), api.ErrRange)
			}
		}
		for _, size := range wrongSizes {
			checkAllFail(t, dims, equalSizes(dims, size), api.ErrRange)
		}
	}
}

// Promise 18.1: a view with a bit that is not one of the dimensions, at each place.
func TestWrongViews(t *testing.T) {
	for dims := 1; dims <= 6; dims++ {
		sizes := countSizes(dims)
		for bit := dims; bit < 32; bit++ {
			for _, v := range []uint32{1 << bit, 1<<bit | 1, 1<<bit | 1<<(dims-1), full &^ (1<<dims - 1), full << bit} {
				checkFails(t, dims, sizes, []uint32{v}, api.ErrNone)
				for i := range 4 {
					checkFails(t, dims, sizes, changed(subsets(2)[:4], i, v)[i:], api.ErrNone)
					checkFails(t, dims, sizes, changed([]uint32{1, 0, 1, 1}, i, v), api.ErrNone)
				}
			}
		}
		checkFails(t, dims, sizes, []uint32{full}, api.ErrNone)
		checkFails(t, dims, sizes, []uint32{high, full, high}, api.ErrNone)
		checkFails(t, dims, sizes, append(subsets(dims), 1<<dims), api.ErrNone)
		checkFails(t, dims, sizes, append([]uint32{high}, subsets(dims)...), api.ErrNone)
		checkFails(t, dims, sizes, append(slices.Repeat([]uint32{1}, 1<<16), high), api.ErrNone)
		// What is behind the end of the list in its memory does not count.
		checkDefined(t, dims, sizes, []uint32{1, 0, high}[:2])
		checkDefined(t, dims, sizes, []uint32{1 << dims, 0, high}[1:2])
	}
}

// Promises 18.1 and 18.2: several errors at once, of which the first one in the
// chapter's order is returned.
func TestErrorsInOrder(t *testing.T) {
	for _, dims := range wrongDims {
		for _, sizes := range [][]int64{nil, {}, {0}, {-1, 5}, {5, 5, 5}, equalSizes(7, 0), equalSizes(6, large+1)} {
			checkAllFail(t, dims, sizes, api.ErrRange)
			checkFails(t, dims, sizes, []uint32{high, 0}, api.ErrRange)
		}
	}
	for dims := 1; dims <= 6; dims++ {
		for _, size := range wrongSizes {
			tooFew := equalSizes(dims, size)[1:]
			tooMany := append(equalSizes(dims, size), 5)
			checkAllFail(t, dims, tooFew, api.ErrMany)
			checkAllFail(t, dims, tooMany, api.ErrMany)
			checkAllFail(t, dims, append(equalSizes(dims, 5), size), api.ErrMany)
			checkAllFail(t, dims, []int64{size}, api.ErrMany)
			checkFails(t, dims, tooFew, []uint32{1 << dims}, api.ErrMany)
			first := changed(equalSizes(dims, 5), 0, size)
			last := changed(equalSizes(dims, 5), 1<<dims-1, size)
			for _, views := range [][]uint32{{1 << dims}, {high}, {full, 0}, {0, high}, {0, 1, 1 << dims}} {
				checkFails(t, dims, first, views, api.ErrRange)
				checkFails(t, dims, last, views, api.ErrRange)
			}
		}
	}
}

// Promise 18.2: a number of sets below 1 is no error and hides none.
func TestErrorsOfChooseWithoutSets(t *testing.T) {
	for _, k := range []int{0, -1, math.MinInt} {
		for _, errno := range []api.Errno{
			errnoOfChoose(0, []int64{1}, k), errnoOfChoose(7, equalSizes(7, 1), k), errnoOfChoose(2, equalSizes(2, 0), k),
		} {
			if errno != api.ErrRange {
				t.Errorf("Choose of %d sets has the error %d", k, errno)
			}
		}
		for _, errno := range []api.Errno{errnoOfChoose(1, nil, k), errnoOfChoose(2, []int64{1, 2, 0}, k)} {
			if errno != api.ErrMany {
				t.Errorf("Choose of %d sets has the error %d", k, errno)
			}
		}
		checkChoose(t, 2, []int64{1, 3, 4, 10}, k)
	}
}

func errnoOfChoose(dims int, sizes []int64, k int) api.Errno {
	_, errno := advise.Choose(dims, sizes, k)
	return errno
}

// Promises 18.1 and 18.2: mixed arguments, most of them wrong in several ways.
func TestMixedErrors(t *testing.T) {
	m := mixer(4)
	found := map[api.Errno]int{}
	for range 20000 {
		dims := m.below(7)
		sizes := m.sizes(min(max(dims+of(&m, []int{0, 0, 0, 0, 0, 0, 1, -1}), 0), 7))
		views := m.views(dims, m.below(4))
		if m.below(3) == 0 {
			sizes[m.below(len(sizes))] = of(&m, wrongSizes)
		}
		if m.below(3) == 0 {
			views = append(views, 1<<(dims+m.below(32-dims)))
		}
		want := defineErrno(dims, sizes, views)
		found[want]++
		if want != api.OK {
			checkFails(t, dims, sizes, views, want)
		} else if _, errno := advise.Cost(dims, sizes, views); errno != api.OK {
			t.Fatalf("Cost(%d, %v, %d) has the error %d", dims, sizes, views, errno)
		}
		if errno := errnoOfChoose(dims, sizes, m.below(3)); errno != defineErrno(dims, sizes, nil) {
			t.Fatalf("Choose(%d, %v) has the error %d", dims, sizes, errno)
		}
	}
	for _, errno := range []api.Errno{api.OK, api.ErrRange, api.ErrMany, api.ErrNone} {
		if found[errno] < 500 {
			t.Errorf("only %d have the error %d", found[errno], errno)
		}
	}
}
