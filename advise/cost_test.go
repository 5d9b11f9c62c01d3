package advise_test

import (
	"slices"
	"testing"
)

// Promise 18.1: the chapter's example.
func TestCostExample(t *testing.T) {
	sizes := []int64{1, 9}
	checkCost(t, 1, sizes, nil, 18)
	checkCost(t, 1, sizes, []uint32{0}, 10)
}

// Promise 18.1: costs, written out.
func TestCost(t *testing.T) {
	sizes := []int64{1, 3, 4, 10}
	checkCost(t, 2, sizes, []uint32{0}, 1+10+10+10)
	checkCost(t, 2, sizes, []uint32{1}, 3+3+10+10)
	checkCost(t, 2, sizes, []uint32{2}, 4+10+4+10)
	checkCost(t, 2, sizes, []uint32{0, 1}, 1+3+10+10)
	checkCost(t, 2, sizes, []uint32{0, 2}, 1+10+4+10)
	checkCost(t, 2, sizes, []uint32{1, 2}, 3+3+4+10)
	checkCost(t, 2, sizes, []uint32{2, 1}, 3+3+4+10)
	checkCost(t, 2, sizes, []uint32{2, 0, 1}, 1+3+4+10)
	sizes = []int64{1, 2, 4, 9, 5, 12, 30, 100}
	checkCost(t, 3, sizes, nil, 800)
	checkCost(t, 3, sizes, []uint32{3}, 4*9+4*100)
	checkCost(t, 3, sizes, []uint32{3, 5}, 9+9+9+9+12+12+100+100)
	checkCost(t, 3, sizes, []uint32{6, 4, 1}, 2+2+30+100+5+100+30+100)
	checkCost(t, 3, sizes, []uint32{0, 1, 2, 3, 4, 5, 6}, 1+2+4+9+5+12+30+100)
}

// Promise 18.1: no views, and the base among the views, which is always there.
func TestCostOfBase(t *testing.T) {
	m := mixer(1)
	for dims := 1; dims <= 6; dims++ {
		base := uint32(1)<<dims - 1
		for range 50 {
			sizes := m.sizes(dims)
			want := sizes[base] << dims
			checkCost(t, dims, sizes, nil, want)
			checkCost(t, dims, sizes, []uint32{}, want)
			checkCost(t, dims, sizes, []uint32{0}[:0], want)
			checkCost(t, dims, sizes, []uint32{base}, want)
			checkCost(t, dims, sizes, []uint32{base, base, base}, want)
			views := m.views(dims, 3)
			want = defineCost(dims, sizes, views)
			checkCost(t, dims, sizes, slices.Concat(views, []uint32{base}), want)
			checkCost(t, dims, sizes, slices.Concat([]uint32{base}, views), want)
		}
	}
}

// Promise 18.1: the empty set serves itself alone, and every set of all views is served
// by the smallest of its supersets.
func TestCostOfEmptyAndAll(t *testing.T) {
	for dims := 1; dims <= 6; dims++ {
		sizes := countSizes(dims)
		sets, most := int64(len(sizes)), int64(dims+1)
		checkCost(t, dims, sizes, []uint32{0}, (sets-1)*most+1)
		// On average a set has half of the dimensions.
		checkCost(t, dims, sizes, subsets(dims), sets/2*int64(dims)+sets)
		reversed := subsets(dims)
		slices.Reverse(reversed)
		checkCost(t, dims, sizes, reversed, sets/2*int64(dims)+sets)
		checkCost(t, dims, sizes, subsets(dims)[:sets-1], sets/2*int64(dims)+sets)
		checkCost(t, dims, sizes, subsets(dims)[1:], sets/2*int64(dims)+sets+1)
	}
}

// Promise 18.1: views that are larger than the base, or as large, do not help.
func TestCostOfLargeViews(t *testing.T) {
	checkCost(t, 1, []int64{9, 1}, []uint32{0}, 2)
	checkCost(t, 1, []int64{9, 9}, []uint32{0}, 18)
	checkCost(t, 1, []int64{large, 1}, []uint32{0, 1}, 2)
	checkCost(t, 2, []int64{1, 30, 4, 10}, []uint32{1}, 40)
	checkCost(t, 2, []int64{1, 30, 4, 10}, []uint32{1, 0}, 31)
	checkCost(t, 2, []int64{1, 30, 4, 10}, []uint32{0, 1}, 31)
	checkCost(t, 2, []int64{1, 30, 4, 10}, []uint32{1, 2}, 28)
	// Nor do those that are larger than a view that is a superset of theirs.
	checkCost(t, 2, []int64{20, 3, 4, 10}, []uint32{0}, 40)
	checkCost(t, 2, []int64{5, 3, 4, 10}, []uint32{0, 1}, 26)
	checkCost(t, 2, []int64{5, 3, 4, 10}, []uint32{1, 0}, 26)
	checkCost(t, 2, []int64{3, 3, 4, 10}, []uint32{1, 0}, 26)
	for dims := 1; dims <= 6; dims++ {
		sizes := equalSizes(dims, large)
		sizes[len(sizes)-1] = 1
		checkCost(t, dims, sizes, subsets(dims), 1<<dims)
	}
}

// Promise 18.1: equal views cost what one of them does, also very many.
func TestCostOfEqualViews(t *testing.T) {
	sizes := []int64{1, 3, 4, 10}
	for n := 1; n < 20; n++ {
		checkCost(t, 2, sizes, slices.Repeat([]uint32{0}, n), 31)
		checkCost(t, 2, sizes, slices.Repeat([]uint32{1}, n), 26)
		checkCost(t, 2, sizes, slices.Repeat([]uint32{3}, n), 40)
		checkCost(t, 2, sizes, slices.Repeat([]uint32{1, 2}, n), 20)
	}
	checkCost(t, 2, sizes, slices.Repeat([]uint32{2, 0, 1, 3}, 1<<18), 18)
	checkCost(t, 6, countSizes(6), slices.Repeat([]uint32{62, 63}, 1<<18), 32*6+32*7)
}

// Promise 18.1: the largest sizes, and the smallest ones.
func TestCostOfExtremeSizes(t *testing.T) {
	for dims := 1; dims <= 6; dims++ {
		sets := int64(1) << dims
		for _, views := range [][]uint32{nil, {0}, {1, 0}, subsets(dims)} {
			checkCost(t, dims, equalSizes(dims, large), views, sets<<40)
			checkCost(t, dims, equalSizes(dims, 1), views, sets)
		}
		checkCost(t, dims, changed(equalSizes(dims, large), 0, 1), []uint32{0}, (sets-1)<<40+1)
		checkCost(t, dims, changed(equalSizes(dims, 1), int(sets)-1, large), []uint32{0}, (sets-1)<<40+1)
		checkCost(t, dims, changed(equalSizes(dims, 1), int(sets)-1, large), subsets(dims), sets-1+large)
	}
	checkCost(t, 6, equalSizes(6, large), nil, 70368744177664)
}

// Promise 18.1: all small sizes with all lists of up to three views.
func TestCostOfAllSmall(t *testing.T) {
	for n := range 4 {
		lists([]int64{1, 2, 3}, 2, func(sizes []int64) {
			lists(subsets(1), n, func(views []uint32) { checkDefined(t, 1, sizes, views) })
		})
		lists([]int64{1, 2, 3}, 4, func(sizes []int64) {
			lists(subsets(2), n, func(views []uint32) { checkDefined(t, 2, sizes, views) })
		})
	}
	lists([]int64{1, 2}, 8, func(sizes []int64) {
		lists(subsets(3), 2, func(views []uint32) { checkDefined(t, 3, sizes, views) })
	})
}

// Promise 18.1: all pairs of views of all numbers of dimensions.
func TestCostOfAllPairs(t *testing.T) {
	m := mixer(2)
	for dims := 1; dims <= 6; dims++ {
		sizes := m.sizes(dims)
		lists(subsets(dims), 2, func(views []uint32) { checkDefined(t, dims, sizes, views) })
	}
}

// Promise 18.1: mixed sizes and views.
func TestCostMixed(t *testing.T) {
	m := mixer(3)
	for range 3000 {
		dims := m.below(6) + 1
		checkDefined(t, dims, m.sizes(dims), m.views(dims, m.below(20)))
	}
}
