package lattice_test

import (
	"math"
	"slices"
	"testing"

	"bushel/lattice"
)

// Promise 17.3: the chapter's example.
func TestStepsExample(t *testing.T) {
	checkSteps(t, []uint32{7, 3, 5}, []int{9, 4, 2}, -1, 0, 0)
}

// Promise 17.3: steps, written out.
func TestSteps(t *testing.T) {
	checkSteps(t, []uint32{7, 3, 5, 1, 4, 0}, []int{90, 40, 20, 10, 5, 1}, -1, 0, 0, 2, 2, 4)
	checkSteps(t, []uint32{0, 1, 2, 3}, []int{1, 3, 2, 9}, 2, 3, 3, -1)
	// The sizes decide, not the numbers of elements, and a larger size is no reason
	// against a step.
	checkSteps(t, []uint32{1, 3, 7}, []int{5, 9, 8}, 2, 2, -1)
	checkSteps(t, []uint32{1, 3, 7}, []int{1, 100, 100}, 1, 2, -1)
	checkSteps(t, []uint32{1, 3, 7}, []int{100, 10, 1}, 2, 2, -1)
	checkSteps(t, []uint32{1, high | 1, full}, []int{1, 7, 8}, 1, 2, -1)
	checkSteps(t, []uint32{high, high | 1, full}, []int{1, 7, 6}, 2, 2, -1)
}

// Promise 17.3: no views, one, and views of which none is a proper superset of another
// one.
func TestStepsNone(t *testing.T) {
	checkSteps(t, nil, nil)
	checkSteps(t, []uint32{}, []int{1, 2})
	checkSteps(t, []uint32{3}[:0], []int{1})
	for _, a := range []uint32{0, 1, high, full} {
		checkSteps(t, []uint32{a}, nil, -1)
		checkSteps(t, []uint32{a}, []int{-3}, -1)
		checkSteps(t, []uint32{a}, []int{3, 1}, -1)
	}
	checkSteps(t, []uint32{1, 2, 4}, []int{1, 2, 3}, -1, -1, -1)
	checkSteps(t, []uint32{3, 5, 6}, []int{1, 2, 3}, -1, -1, -1)
	checkSteps(t, elements(0, 32), nil, slices.Repeat([]int{-1}, 32)...)
	checkSteps(t, []uint32{full >> 1, full - 1, high}, []int{0, 9, 0}, -1, -1, 1)
}

// Promise 17.3: equal views are no proper supersets of each other, whatever their sizes.
func TestStepsEqual(t *testing.T) {
	for _, a := range []uint32{0, 1, 7, high, full} {
		checkSteps(t, []uint32{a, a}, []int{1, 2}, -1, -1)
		checkSteps(t, []uint32{a, a}, []int{2, 1}, -1, -1)
		checkSteps(t, []uint32{a, a, a}, nil, -1, -1, -1)
		checkSteps(t, slices.Repeat([]uint32{a}, 30), nil, slices.Repeat([]int{-1}, 30)...)
	}
	checkSteps(t, []uint32{3, 3, 7}, []int{1, 2, 9}, 2, 2, -1)
	checkSteps(t, []uint32{3, 7, 3, 7}, []int{1, 9, 2, 8}, 3, -1, 3, -1)
	checkSteps(t, []uint32{1, 3, 3, 1}, []int{1, 5, 4, 0}, 2, -1, -1, 2)
	checkSteps(t, []uint32{0, 0, full, full}, []int{1, 1, 7, 7}, 2, 2, -1, -1)
}

// Promise 17.3: a chain, from the smallest view to the largest and the other way.
func TestStepsChain(t *testing.T) {
	var chain []uint32
	var up, down, last, none []int
	for i := range 33 {
		chain = append(chain, 1<<i-1)
		up, down = append(up, i), append(down, -i)
		none = append(none, i+1)
		last = append(last, 32)
	}
	none[32], last[32] = -1, -1
	// Growing sizes: each one from the next; falling ones: from the full set; no sizes:
	// from the first one behind it.
	checkSteps(t, chain, up, none...)
	checkSteps(t, chain, down, last...)
	checkSteps(t, chain, nil, none...)
	slices.Reverse(chain)
	first := make([]int, 33)
	first[0] = -1
	before := make([]int, 33)
	for i := range before {
		before[i] = i - 1
	}
	checkSteps(t, chain, nil, first...)
	checkSteps(t, chain, up, first...)
	checkSteps(t, chain, down, before...)
}

// Promise 17.3: too few sizes, and too many.
func TestStepsSizes(t *testing.T) {
	views := []uint32{7, 3, 5, 1}
	checkSteps(t, views, nil, -1, 0, 0, 0)
	checkSteps(t, views, []int{9}, -1, 0, 0, 1)
	checkSteps(t, views, []int{9, 4}, -1, 0, 0, 2)
	checkSteps(t, views, []int{9, -4}, -1, 0, 0, 1)
	checkSteps(t, views, []int{-9, -4}, -1, 0, 0, 0)
	checkSteps(t, views, []int{9, 4, 5}, -1, 0, 0, 1)
	checkSteps(t, views, []int{9, 4, 5, 1}, -1, 0, 0, 1)
	checkSteps(t, views, []int{9, 4, 5, 1, 0, -7, -8}, -1, 0, 0, 1)
	// What is behind the ends of the lists in their memory does not count.
	checkSteps(t, views, []int{9, 4, 5, 1}[:2], -1, 0, 0, 2)
	checkSteps(t, []uint32{7, 3, 5, 1}[1:3], []int{1, 2}, -1, -1)
	checkSteps(t, []uint32{1, 3, 7}[:2], []int{1, 2, 0}, 1, -1)
}

// Promise 17.3: sizes may be any numbers: negative, the least and the greatest.
func TestStepsAnySizes(t *testing.T) {
	checkSteps(t, []uint32{1, 3, 5}, []int{0, -1, -2}, 2, -1, -1)
	checkSteps(t, []uint32{1, 3, 5}, []int{math.MinInt, math.MaxInt, math.MaxInt}, 1, -1, -1)
	checkSteps(t, []uint32{1, 3, 5}, []int{0, math.MaxInt, math.MinInt}, 2, -1, -1)
	checkSteps(t, []uint32{1, 3, 5}, []int{0, 1, math.MinInt}, 2, -1, -1)
	checkSteps(t, []uint32{1, 3}, []int{0, math.MaxInt}, 1, -1)
	checkSteps(t, []uint32{1, 3}, []int{0, math.MinInt}, 1, -1)
}

// Promise 17.3: of several smallest views it is the first one.
func TestStepsSeveral(t *testing.T) {
	checkSteps(t, []uint32{1, 3, 5, 7, 9}, []int{0, 4, 4, 4, 4}, 1, 3, 3, -1, -1)
	checkSteps(t, []uint32{9, 7, 5, 3, 1}, []int{4, 4, 4, 4, 0}, -1, -1, 1, 1, 0)
	checkSteps(t, []uint32{0, 2, 1, 4}, []int{3, 2, 1, 1}, 2, -1, -1, -1)
	checkSteps(t, []uint32{0, 7, 7}, []int{3, 2, 2}, 1, -1, -1)
	checkSteps(t, []uint32{7, 0, 7}, []int{2, 3, 2}, -1, 0, -1)
	checkSteps(t, []uint32{6, 3, 2, 6, 3}, []int{5, 5, 1, 5, 5}, -1, -1, 0, -1, -1)
}

// Promise 17.3: all lists of three views of three dimensions with sizes that are equal,
// and too few.
func TestStepsAllSmall(t *testing.T) {
	lists(subsets(3), 3, func(views []uint32) {
		for n := range 5 {
			lists([]int{-1, 0, 2}, n, func(sizes []int) {
				checkSteps(t, views, sizes, defineSteps(views, sizes)...)
			})
		}
	})
}

// Promise 17.3: mixed views and sizes. A step is what covers the view best, of those
// views that are not equal to it.
func TestStepsMixed(t *testing.T) {
	m := mixer(9)
	for range 3000 {
		views := m.list(m.below(25))
		sizes := m.sizes(m.below(30))
		steps := lattice.Steps(views, sizes)
		checkSteps(t, views, sizes, defineSteps(views, sizes)...)
		for i, a := range views {
			if steps[i] < 0 {
				continue
			}
			b := views[steps[i]]
			if a == b || !lattice.Sub(a, b) {
				t.Fatalf("Steps(%#x, %v): %#x is no proper superset of %#x", views, sizes, b, a)
			}
		}
	}
}

// Promise 17.3: all sets of eight dimensions.
func TestStepsOfAll(t *testing.T) {
	m := mixer(10)
	views := subsets(8)
	for range 5 {
		sizes := m.sizes(m.below(300))
		checkSteps(t, views, sizes, defineSteps(views, sizes)...)
	}
}
