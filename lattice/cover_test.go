package lattice_test

import (
	"math"
	"slices"
	"testing"
)

// Promise 17.3: the chapter's example.
func TestCoverExample(t *testing.T) {
	checkCover(t, []uint32{7, 3, 5}, []int{9, 4, 2}, 1, 2)
}

// Promise 17.3: the smallest of the views that contain all that is needed, written out.
func TestCover(t *testing.T) {
	views, sizes := []uint32{7, 3, 5, 1, 0}, []int{90, 40, 20, 10, 1}
	for need, want := range []int{4, 3, 1, 1, 2, 2, 0, 0, -1} {
		checkCover(t, views, sizes, uint32(need), want)
	}
	checkCover(t, views, sizes, high, -1)
	checkCover(t, views, sizes, high|1, -1)
	checkCover(t, views, sizes, full, -1)
	// The sizes decide, not the numbers of elements.
	checkCover(t, []uint32{1, 3, 7, 15}, []int{9, 7, 3, 8}, 1, 2)
	checkCover(t, []uint32{15, 7, 3, 1}, []int{8, 3, 7, 9}, 1, 1)
	checkCover(t, []uint32{high, high | 1, full}, []int{1, 2, 3}, 1, 1)
	checkCover(t, []uint32{high, 1, full}, []int{1, 1, 3}, high|1, 2)
}

// Promise 17.3: no views, and views without a superset of what is needed.
func TestCoverNone(t *testing.T) {
	checkCover(t, nil, nil, 0, -1)
	checkCover(t, []uint32{}, []int{}, full, -1)
	checkCover(t, nil, []int{1, 2}, 0, -1)
	checkCover(t, nil, []int{-1}, 3, -1)
	checkCover(t, []uint32{0}, []int{1}, 1, -1)
	checkCover(t, []uint32{6, 5, 3}, []int{0, -1, 5}, 7, -1)
	checkCover(t, []uint32{full >> 1, full - 1}, []int{1, 2}, full, -1)
	checkCover(t, []uint32{full >> 1}, []int{-5}, high, -1)
	checkCover(t, []uint32{full - 1}, nil, 1, -1)
	checkCover(t, without(20), nil, 1<<20-1, -1)
}

// Promise 17.3: of several smallest views it is the first one.
func TestCoverSeveral(t *testing.T) {
	checkCover(t, []uint32{7, 7, 7}, []int{2, 2, 2}, 1, 0)
	checkCover(t, []uint32{7, 3, 5}, []int{4, 4, 4}, 1, 0)
	checkCover(t, []uint32{7, 3, 5}, []int{4, 2, 2}, 1, 1)
	checkCover(t, []uint32{7, 3, 5}, []int{2, 4, 2}, 1, 0)
	checkCover(t, []uint32{4, 3, 5}, []int{1, 2, 2}, 1, 1)
	checkCover(t, []uint32{4, 2, 3, 5, 7, 1}, []int{1, 1, 3, 2, 2, 2}, 1, 3)
	checkCover(t, []uint32{3, 3, 3, 3}, []int{5, 4, 4, 5}, 3, 1)
	for n := 1; n < 40; n++ {
		checkCover(t, slices.Repeat([]uint32{9}, n), slices.Repeat([]int{n}, n), 8, 0)
	}
}

// Promise 17.3: the size of a view without one is 0.
func TestCoverShortSizes(t *testing.T) {
	checkCover(t, []uint32{7, 3, 5}, nil, 1, 0)
	checkCover(t, []uint32{7, 3, 5}, []int{}, 4, 0)
	checkCover(t, []uint32{7, 3, 5}, nil, 2, 0)
	checkCover(t, []uint32{6, 3, 5}, nil, 1, 1)
	checkCover(t, []uint32{7, 3, 5}, []int{9}, 1, 1)
	checkCover(t, []uint32{7, 3, 5}, []int{9, 4}, 1, 2)
	checkCover(t, []uint32{7, 3, 5}, []int{1, 1}, 1, 2)
	checkCover(t, []uint32{7, 3, 5}, []int{1, 1}, 2, 0)
	checkCover(t, []uint32{7, 3, 5}, []int{2, 1}, 2, 1)
	checkCover(t, []uint32{7, 3, 5}, []int{0, 4}, 1, 0)
	checkCover(t, []uint32{7, 3, 5}, []int{-1}, 1, 0)
	checkCover(t, []uint32{7, 3, 5}, []int{3, -1}, 1, 1)
	// What is behind the end of the sizes in their memory is no size.
	checkCover(t, []uint32{7, 3, 5}, []int{9, 4, -7}[:2], 4, 2)
	checkCover(t, []uint32{7, 3, 5}, []int{9, 4, -7}[:1], 1, 1)
}

// Promise 17.3: sizes without a view do not count.
func TestCoverLongSizes(t *testing.T) {
	checkCover(t, []uint32{7, 3, 5}, []int{9, 4, 2, 1}, 1, 2)
	checkCover(t, []uint32{7, 3, 5}, []int{9, 4, 5, 1, 0, -1}, 1, 1)
	checkCover(t, []uint32{3}, []int{9, 4, 2}, 4, -1)
	checkCover(t, []uint32{3}, []int{9, 0, -2}, 2, 0)
	// Nor do views behind the end of the views in their memory.
	checkCover(t, []uint32{7, 3, 5}[:2], []int{9, 4, 2}, 1, 1)
	checkCover(t, []uint32{7, 3, 5}[:0], []int{9, 4, 2}, 1, -1)
}

// Promise 17.3: sizes may be any numbers: negative, the least and the greatest.
func TestCoverAnySizes(t *testing.T) {
	checkCover(t, []uint32{7, 3, 5}, []int{-1, -2, -1}, 1, 1)
	checkCover(t, []uint32{7, 3, 5}, []int{-3, 4, -3}, 1, 0)
	checkCover(t, []uint32{7, 3, 5}, []int{1, 0, -1}, 1, 2)
	checkCover(t, []uint32{7, 3, 5}, []int{-1, -1, 0}, 4, 0)
	checkCover(t, []uint32{7}, []int{math.MaxInt}, 1, 0)
	checkCover(t, []uint32{7}, []int{math.MinInt}, 1, 0)
	checkCover(t, []uint32{1, 7, 7}, []int{0, math.MaxInt, math.MaxInt}, 2, 1)
	checkCover(t, []uint32{7, 7}, []int{math.MaxInt, math.MinInt}, 1, 1)
	checkCover(t, []uint32{7, 7}, []int{math.MinInt, math.MaxInt}, 1, 0)
	checkCover(t, []uint32{7, 7, 7}, []int{1, math.MinInt, -1}, 1, 1)
	checkCover(t, []uint32{7, 7}, []int{math.MaxInt, math.MaxInt - 1}, 1, 1)
	checkCover(t, []uint32{7, 7}, []int{1 << 32, 1}, 1, 1)
	checkCover(t, []uint32{7, 7}, []int{1<<32 + 1, 1 << 32}, 1, 1)
}

// Promise 17.3: what is needed is nothing, everything, or one element.
func TestCoverEnds(t *testing.T) {
	checkCover(t, []uint32{5, 0, full}, []int{3, 2, 4}, 0, 1)
	checkCover(t, []uint32{5, 0, full}, []int{3, 2, 1}, 0, 2)
	checkCover(t, []uint32{5, 0, full}, []int{3, 2, 4}, full, 2)
	checkCover(t, []uint32{full - 1, full >> 1, full}, []int{1, 2, 3}, 1, 1)
	checkCover(t, []uint32{full - 1, full >> 1, full}, []int{1, 2, 3}, high, 0)
	checkCover(t, []uint32{full - 1, full >> 1, full}, []int{1, 2, 3}, high|1, 2)
	for i := range 32 {
		checkCover(t, elements(0, 32), nil, 1<<i, i)
		checkCover(t, append([]uint32{^(1 << i)}, elements(0, 32)...), []int{-9}, 1<<i, i+1)
	}
}

// Promise 17.3: all lists of three views of two dimensions, with all sizes and too few of
// them, and with all needs.
func TestCoverAllSmall(t *testing.T) {
	lists(subsets(2), 3, func(views []uint32) {
		for n := range 5 {
			lists([]int{-1, 0, 2}, n, func(sizes []int) {
				for _, need := range subsets(2) {
					checkCover(t, views, sizes, need, defineCover(views, sizes, need))
				}
			})
		}
	})
}

// Promise 17.3: mixed views and sizes.
func TestCoverMixed(t *testing.T) {
	m := mixer(8)
	for range 10000 {
		views := m.list(m.below(20))
		sizes := m.sizes(m.below(25))
		need := m.set()
		if len(views) > 0 && m.below(3) > 0 {
			need &= of(&m, views)
		}
		checkCover(t, views, sizes, need, defineCover(views, sizes, need))
	}
}
