package advise_test

import (
	"math"
	"slices"
	"testing"

	"bushel/advise"
	"bushel/api"
)

// Promise 18.2: the chapter's example.
func TestChooseExample(t *testing.T) {
	checkChoose(t, 1, []int64{1, 9}, 2, 0)
}

// Promise 18.2: choices, written out, in the order in which they are made.
func TestChoose(t *testing.T) {
	// The gains are 9, 14 and 16; behind the set 2, 1 and 7; behind both, 1.
	checkChoose(t, 2, []int64{1, 3, 2, 10}, 1, 2)
	checkChoose(t, 2, []int64{1, 3, 2, 10}, 2, 2, 1)
	checkChoose(t, 2, []int64{1, 3, 2, 10}, 3, 2, 1, 0)
	checkChoose(t, 2, []int64{1, 3, 2, 10}, 4, 2, 1, 0)
	// The gains are 4, 10 and 8; behind the set 1, none and 4.
	checkChoose(t, 2, []int64{6, 5, 6, 10}, 9, 1, 2)
	// The gains together with the previous sets count: alone they are 58 of the sets 1
	// and 4, and 56 of 6, but behind the set 1 they are 29 of 4 and 42 of 6.
	checkChoose(t, 3, []int64{40, 1, 40, 40, 1, 40, 16, 30}, 3, 1, 6, 4)
	// The gain counts, not the size: the smallest view serves itself alone.
	checkChoose(t, 3, []int64{1, 90, 90, 50, 90, 90, 90, 100}, 1, 3)
	checkChoose(t, 3, []int64{1, 90, 90, 50, 90, 90, 90, 100}, 2, 3, 0)
}

// Promise 18.2: no sets if k is below 1, and no more than there are.
func TestChooseNumbers(t *testing.T) {
	sizes := []int64{1, 3, 2, 10}
	for _, k := range []int{0, -1, -4, math.MinInt, math.MinInt + 1} {
		checkChoose(t, 2, sizes, k)
		checkChoose(t, 6, countSizes(6), k)
	}
	for _, k := range []int{3, 4, 5, 64, 1 << 31, 1 << 32, math.MaxInt - 1, math.MaxInt} {
		checkChoose(t, 2, sizes, k, 2, 1, 0)
		checkChoose(t, 1, []int64{1, 9}, k, 0)
	}
}

// Promise 18.2: fewer sets are the first ones of more.
func TestChooseBegins(t *testing.T) {
	m := mixer(5)
	for range 200 {
		dims := m.below(6) + 1
		sizes := m.sizes(dims)
		all, errno := advise.Choose(dims, sizes, math.MaxInt)
		if errno != api.OK {
			t.Fatalf("Choose(%d, %v) has the error %d", dims, sizes, errno)
		}
		for k := range 1<<dims + 3 {
			checkChoose(t, dims, sizes, k, all[:min(k, len(all))]...)
		}
	}
}

// Promise 18.2: where each view is smaller than all of its supersets, all sets but the
// base are chosen in the end.
func TestChooseAll(t *testing.T) {
	for dims := 1; dims <= 6; dims++ {
		sets := 1 << dims
		for k := sets - 3; k <= sets+2; k++ {
			l, errno := advise.Choose(dims, countSizes(dims), k)
			if errno != api.OK || len(l) != min(max(k, 0), sets-1) {
				t.Fatalf("Choose of %d sets of %d dimensions has %d, with the error %d", k, dims, len(l), errno)
			}
			slices.Sort(l)
			if n := len(slices.Compact(l)); n != len(l) || slices.Contains(l, uint32(sets-1)) {
				t.Fatalf("Choose of %d sets of %d dimensions has %d", k, dims, l)
			}
		}
	}
}

// Promise 18.2: of several sets with the same gain it is the one with the smallest mask.
func TestChooseSeveral(t *testing.T) {
	checkChoose(t, 2, []int64{5, 3, 3, 10}, 9, 1, 2)
	checkChoose(t, 2, []int64{5, 3, 3, 10}, 1, 1)
	// All gains are 8, then they are 4 of the sets 1 and 2.
	checkChoose(t, 2, []int64{2, 6, 6, 10}, 9, 0, 1, 2)
	// The gains are 8, 6 and 8, then 3 and 4.
	checkChoose(t, 2, []int64{2, 7, 6, 10}, 9, 0, 2, 1)
	// The same gain only together with the first one: behind the set 4 it is 2 of 1 and
	// of 2, and behind 1 it is 1 of 0.
	checkChoose(t, 3, []int64{2, 8, 8, 10, 3, 10, 10, 10}, 9, 4, 1, 2, 0)
	for dims := 1; dims <= 6; dims++ {
		// Of the sets that lack one dimension it is the last dimension, then the one
		// before; each time half as many sets are left.
		sizes := equalSizes(dims, 1)
		sizes[1<<dims-1] = large
		var want []uint32
		for i := range dims {
			want = append(want, (1<<dims-1)&^(1<<(dims-1-i)))
		}
		checkChoose(t, dims, sizes, math.MaxInt, want...)
		for k := range want {
			checkChoose(t, dims, sizes, k, want[:k]...)
		}
	}
}

// Promise 18.2: the selection ends before k where no set increases the gain.
func TestChooseEnds(t *testing.T) {
	// The set 1 is not larger than the empty one, which it serves too.
	checkChoose(t, 2, []int64{3, 3, 9, 9}, 9, 1)
	checkChoose(t, 2, []int64{4, 3, 9, 9}, 9, 1)
	checkChoose(t, 2, []int64{9, 9, 8, 9}, 9, 2)
	checkChoose(t, 2, []int64{8, 9, 9, 9}, 9, 0)
	checkChoose(t, 2, []int64{8, 10, 10, 9}, 9, 0)
	checkChoose(t, 6, changed(equalSizes(6, large), 0, 1), 64, 0)
	checkChoose(t, 6, changed(equalSizes(6, large), 0, large-1), 64, 0)
	checkChoose(t, 6, changed(equalSizes(6, large), 62, large-1), 64, 62)
}

// Promise 18.2: no set at all where all sizes are equal, or none is below the base's.
func TestChooseNone(t *testing.T) {
	for dims := 1; dims <= 6; dims++ {
		for _, k := range anyK {
			for _, size := range []int64{1, 2, 77, large - 1, large} {
				checkChoose(t, dims, equalSizes(dims, size), k)
				checkChoose(t, dims, changed(equalSizes(dims, size), 1<<dims-1, 1), k)
			}
			sizes := countSizes(dims)
			slices.Reverse(sizes)
			checkChoose(t, dims, sizes, k)
		}
	}
}

// checkGreedy fails if a set that is chosen is not the first one of those with the
// largest gain together with the previous ones, or if sets are missing at the end.
func checkGreedy(t *testing.T, dims int, sizes []int64, k int) {
	t.Helper()
	chosen, errno := advise.Choose(dims, sizes, k)
	if errno != api.OK || len(chosen) > max(k, 0) {
		t.Fatalf("Choose(%d, %v, %d) is %d, with the error %d", dims, sizes, k, chosen, errno)
	}
	for i := range len(chosen) + 1 {
		before := defineGain(dims, sizes, chosen[:i])
		gains := defineGains(dims, sizes, chosen[:i])
		most := slices.Max(gains)
		if i < len(chosen) && (most <= before || slices.Index(gains, most) != int(chosen[i])) {
			t.Fatalf("Choose(%d, %v, %d) is %d; behind %d sets the gains are %d, from %d", dims, sizes, k, chosen, i, gains, before)
		}
		if i == len(chosen) && i < k && most > before {
			t.Fatalf("Choose(%d, %v, %d) is %d; further sets would have the gains %d, from %d", dims, sizes, k, chosen, gains, before)
		}
	}
}

// Promise 18.2: all small sizes, against the definition.
func TestChooseOfAllSmall(t *testing.T) {
	for _, k := range []int{0, 1, 2, 3, 4, math.MaxInt} {
		lists([]int64{1, 2, 3, 5, large}, 2, func(sizes []int64) {
			checkChoose(t, 1, sizes, k, defineChoose(1, sizes, k)...)
		})
		lists([]int64{1, 2, 3, 5}, 4, func(sizes []int64) {
			checkChoose(t, 2, sizes, k, defineChoose(2, sizes, k)...)
		})
		lists([]int64{1, 2}, 8, func(sizes []int64) {
			checkChoose(t, 3, sizes, k, defineChoose(3, sizes, k)...)
		})
	}
}

// Promise 18.2: mixed sizes, each chosen set against the gains of all sets together with
// the previous ones.
func TestChooseMixed(t *testing.T) {
	m := mixer(6)
	for range 600 {
		dims := m.below(5) + 1
		sizes := m.sizes(dims)
		k := of(&m, []int{1, 2, 3, 5, 1 << dims, 1<<dims - 1, math.MaxInt, m.below(1 << dims)})
		checkGreedy(t, dims, sizes, k)
		checkChoose(t, dims, sizes, k, defineChoose(dims, sizes, k)...)
	}
}

// Promise 18.2: the same for six dimensions.
func TestChooseOfSix(t *testing.T) {
	m := mixer(7)
	for range 8 {
		checkGreedy(t, 6, m.sizes(6), m.below(6)+1)
	}
	checkGreedy(t, 6, m.sizes(6), math.MaxInt)
	checkGreedy(t, 6, countSizes(6), 12)
}
