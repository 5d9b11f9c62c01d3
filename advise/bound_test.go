package advise_test

import (
	"testing"

	"bushel/advise"
	"bushel/api"
)

// gainOf returns the gain of the views, which Gain knows.
func gainOf(t *testing.T, dims int, sizes []int64, views []uint32) int64 {
	t.Helper()
	gain, errno := advise.Gain(dims, sizes, views)
	if errno != api.OK {
		t.Fatalf("Gain(%d, %v, %d) has the error %d", dims, sizes, views, errno)
	}
	return gain
}

// chosenGain returns the gain of k chosen sets.
func chosenGain(t *testing.T, dims int, sizes []int64, k int) int64 {
	t.Helper()
	chosen, errno := advise.Choose(dims, sizes, k)
	if errno != api.OK {
		t.Fatalf("Choose(%d, %v, %d) has the error %d", dims, sizes, k, errno)
	}
	return gainOf(t, dims, sizes, chosen)
}

// bestPair returns the largest gain of any two sets, equal ones too.
func bestPair(t *testing.T, dims int, sizes []int64) int64 {
	t.Helper()
	best := int64(0)
	for _, a := range subsets(dims) {
		for b := range a + 1 {
			best = max(best, gainOf(t, dims, sizes, []uint32{a, b}))
		}
	}
	return best
}

// bestTriple returns the largest gain of any three sets, equal ones too.
func bestTriple(t *testing.T, dims int, sizes []int64) int64 {
	t.Helper()
	best := int64(0)
	for _, a := range subsets(dims) {
		for b := range a + 1 {
			for c := range b + 1 {
				best = max(best, gainOf(t, dims, sizes, []uint32{a, b, c}))
			}
		}
	}
	return best
}

// checkPairs fails if two chosen sets have less than 3/4 of the best gain of two. It
// reports whether they have less than all of it.
func checkPairs(t *testing.T, dims int, sizes []int64) bool {
	t.Helper()
	chosen, best := chosenGain(t, dims, sizes, 2), bestPair(t, dims, sizes)
	if 4*chosen < 3*best || chosen > best {
		t.Fatalf("two sets chosen from %v have the gain %d; the best ones have %d", sizes, chosen, best)
	}
	return chosen < best
}

// checkTriples fails if three chosen sets have less than 19/27 of the best gain of
// three. It reports whether they have less than all of it.
func checkTriples(t *testing.T, dims int, sizes []int64) bool {
	t.Helper()
	chosen, best := chosenGain(t, dims, sizes, 3), bestTriple(t, dims, sizes)
	if 27*chosen < 19*best || chosen > best {
		t.Fatalf("three sets chosen from %v have the gain %d; the best ones have %d", sizes, chosen, best)
	}
	return chosen < best
}

// checkGains fails if two and three chosen sets do not have these gains, or any others
// not these best ones.
func checkGains(t *testing.T, sizes []int64, two, bestTwo, three, bestThree int64) {
	t.Helper()
	if got, best := chosenGain(t, 3, sizes, 2), bestPair(t, 3, sizes); got != two || best != bestTwo {
		t.Errorf("two sets chosen from %v have the gain %d, the best ones %d; want %d, %d", sizes, got, best, two, bestTwo)
	}
	if got, best := chosenGain(t, 3, sizes, 3), bestTriple(t, 3, sizes); got != three || best != bestThree {
		t.Errorf("three sets chosen from %v have the gain %d, the best ones %d; want %d, %d", sizes, got, best, three, bestThree)
	}
}

// Promise 18.3: sizes where the chosen sets are not the best ones, written out.
func TestBoundsBelowBest(t *testing.T) {
	// The sets 1, 2 and 5 have the gain 4 each; 1 comes first, but 2 and 5 are the best.
	checkGains(t, []int64{1, 1, 1, 3, 3, 2, 3, 3}, 6, 7, 8, 8)
	// The sets 4 and 5 have the gain 28 each, and the first one is no part of the best two.
	checkGains(t, []int64{7, 15, 2, 15, 1, 8, 15, 15}, 42, 47, 55, 55)
	// The sets 4, 5 and 6 are the best, but behind 4 it is 3 that has as much as they.
	checkGains(t, []int64{7, 3, 3, 5, 1, 4, 4, 7}, 18, 18, 22, 24)
}

// Promise 18.3: all small sizes of few dimensions, against all pairs and all triples.
func TestBoundsOfAllSmall(t *testing.T) {
	lists([]int64{1, 2, 3, 9}, 4, func(sizes []int64) {
		checkPairs(t, 2, sizes)
		checkTriples(t, 2, sizes)
	})
	lists([]int64{1, 2, 3}, 7, func(sizes []int64) {
		sizes = append(sizes, 3)
		checkPairs(t, 3, sizes)
		checkTriples(t, 3, sizes)
	})
}

// Promise 18.3: mixed sizes of one to four dimensions, against all pairs and all
// triples, with some whose chosen sets are not the best ones.
func TestBoundsMixed(t *testing.T) {
	m := mixer(8)
	pairs, triples := 0, 0
	for i := range 6000 {
		dims := m.below(3) + 1
		if i%10 == 0 {
			dims = 4
		}
		sizes := m.sizes(dims)
		if checkPairs(t, dims, sizes) {
			pairs++
		}
		if checkTriples(t, dims, sizes) {
			triples++
		}
	}
	if pairs < 5 || triples < 5 {
		t.Errorf("only %d pairs and %d triples are not the best ones", pairs, triples)
	}
}

// Promise 18.3: mixed sizes of five and six dimensions, against all pairs.
func TestBoundsOfMany(t *testing.T) {
	m := mixer(9)
	for range 40 {
		checkPairs(t, 5, m.sizes(5))
		checkPairs(t, 6, m.sizes(6))
	}
	checkPairs(t, 6, countSizes(6))
	checkPairs(t, 6, equalSizes(6, large))
	checkTriples(t, 5, m.sizes(5))
}

// Promise 18.3: a view of two dimensions that has half of each of two others comes
// first, because its mask is the smallest; the pair of the others has 7/6 of the gain.
func TestBoundsOfOverlaps(t *testing.T) {
	sizes := equalSizes(4, large)
	sizes[0b0011], sizes[0b0101], sizes[0b1010] = 1, 1, 1
	checkChoose(t, 4, sizes, 2, 0b0011, 0b0101)
	each := large - 1
	if two, best := chosenGain(t, 4, sizes, 2), bestPair(t, 4, sizes); two != 6*each || best != 7*each {
		t.Errorf("two sets have the gain %d, the best ones %d", two, best)
	}
	checkPairs(t, 4, sizes)
	checkTriples(t, 4, sizes)
}
