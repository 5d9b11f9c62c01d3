package cells_test

import (
	"math"
	"testing"

	"bushel/api"
	"bushel/cells"
)

// checkFind fails if Find has not this answer.
func checkFind(t *testing.T, l []api.Cell, key uint64, want int, ok bool) {
	t.Helper()
	i, found := cells.Find(l, key)
	if i != want || found != ok {
		t.Fatalf("Find(%d cells %v, %d) is %d, %v; want %d, %v", len(l), brief(l), key, i, found, want, ok)
	}
}

// Promise 15.1: the empty list.
func TestFindInEmpty(t *testing.T) {
	for _, none := range [][]api.Cell{nil, {}, plains(0)[:0]} {
		for _, k := range []uint64{0, 1, 1 << 63, math.MaxUint64} {
			checkFind(t, none, k, 0, false)
		}
	}
}

// Promise 15.1: written out: the first, the last and middle Keys, and those below,
// between and above.
func TestFind(t *testing.T) {
	l := keyed(2, 5, 7, 8, 100)
	for _, c := range []struct {
		key  uint64
		want int
		ok   bool
	}{
		{0, 0, false}, {1, 0, false}, {2, 0, true}, {3, 1, false}, {4, 1, false}, {5, 1, true}, {6, 2, false}, {7, 2, true},
		{8, 3, true}, {9, 4, false}, {99, 4, false}, {100, 4, true}, {101, 5, false}, {1 << 32, 5, false}, {1<<32 + 5, 5, false},
		{1<<63 + 5, 5, false}, {math.MaxUint64, 5, false},
	} {
		checkFind(t, l, c.key, c.want, c.ok)
	}
}

// Promise 15.1: key 0 and the greatest key, and keys that would be negative as signed
// numbers.
func TestFindEnds(t *testing.T) {
	l := keyed(0, 1, 1<<32, 1<<63-1, 1<<63, 1<<63+1, math.MaxUint64)
	for i, c := range l {
		checkFind(t, l, c.Key, i, true)
	}
	checkFind(t, l, 2, 2, false)
	checkFind(t, l, 1<<32+1, 3, false)
	checkFind(t, l, 1<<62, 3, false)
	checkFind(t, l, 1<<63+2, 6, false)
	checkFind(t, l, math.MaxUint64-1, 6, false)
	checkFind(t, l[1:], 0, 0, false)
	checkFind(t, l[:6], math.MaxUint64, 6, false)
	checkFind(t, keyed(0), 0, 0, true)
	checkFind(t, keyed(0), 1, 1, false)
	checkFind(t, keyed(math.MaxUint64), math.MaxUint64, 0, true)
	checkFind(t, keyed(math.MaxUint64), math.MaxUint64-1, 0, false)
}

// Promise 15.1: each Key and those beside it, in lists of each length.
func TestFindInEachPlace(t *testing.T) {
	var l []api.Cell
	for n := range 70 {
		for i := range n {
			k := uint64(3*i + 1)
			checkFind(t, l, k-1, i, false)
			checkFind(t, l, k, i, true)
			checkFind(t, l, k+1, i+1, false)
		}
		checkFind(t, l, 1000, n, false)
		l = append(l, keyed(uint64(3*n+1))...)
	}
}

// Promise 15.1: mixed lists.
func TestFindMixed(t *testing.T) {
	m := mixer(6)
	for range 500 {
		s := of(&m, samples())
		mask := of(&m, sets(s))
		l := m.list(s, mask, m.below(40))
		for _, c := range l {
			for _, k := range []uint64{c.Key, c.Key - 1, c.Key + 1, c.Key + 1<<32, m.long() % defineKeys(s, mask)} {
				want, ok := defineFind(l, k)
				checkFind(t, l, k, want, ok)
			}
		}
	}
}

// R1 for 15.1: lists whose Keys are not strictly increasing are no reason to panic, and
// the answer is the same each time.
func TestFindNotIncreasing(t *testing.T) {
	for _, keys := range notIncreasing() {
		l := keyed(keys...)
		for _, k := range append(keys, 0, 4, math.MaxUint64) {
			i, ok := cells.Find(l, k)
			if i < 0 || i > len(l) || ok && l[i].Key != k {
				t.Errorf("Find(%d, %d) is %d, %v", keys, k, i, ok)
			}
			checkFind(t, l, k, i, ok)
		}
	}
}
