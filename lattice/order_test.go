package lattice_test

import (
	"slices"
	"testing"

	"bushel/lattice"
)

// Promise 17.2: sets in order, written out.
func TestOrder(t *testing.T) {
	checkOrder(t, []uint32{1, 2, 3}, 3, 1, 2)
	checkOrder(t, []uint32{4, 3, 5, 7, 0, 1}, 7, 3, 5, 1, 4, 0)
	checkOrder(t, []uint32{0, 1, 3, 7, 15}, 15, 7, 3, 1, 0)
	checkOrder(t, []uint32{8, 3}, 3, 8)
	checkOrder(t, []uint32{6, 5, 3, 9, 10, 12}, 3, 5, 6, 9, 10, 12)
	checkOrder(t, subsets(4), 15, 7, 11, 13, 14, 3, 5, 6, 9, 10, 12, 1, 2, 4, 8, 0)
}

// Promise 17.2: no sets, and one.
func TestOrderOfFew(t *testing.T) {
	checkOrder(t, nil)
	checkOrder(t, []uint32{})
	checkOrder(t, []uint32{3}[:0])
	for _, a := range []uint32{0, 1, 2, 3, high, high | 1, full} {
		checkOrder(t, []uint32{a}, a)
	}
}

// Promise 17.2: equal sets are returned once, wherever they are in the list.
func TestOrderOfEqual(t *testing.T) {
	for _, a := range []uint32{0, 1, 6, high, full} {
		for _, n := range []int{2, 3, 4, 50} {
			checkOrder(t, slices.Repeat([]uint32{a}, n), a)
		}
	}
	checkOrder(t, []uint32{1, 2, 1}, 1, 2)
	checkOrder(t, []uint32{2, 1, 2, 1, 1}, 1, 2)
	checkOrder(t, []uint32{0, 7, 0, 7, 0}, 7, 0)
	checkOrder(t, []uint32{3, 3, 1, 3, 1, 5, 3, 0, 0}, 3, 5, 1, 0)
	checkOrder(t, slices.Repeat(subsets(3), 5), 7, 3, 5, 6, 1, 2, 4, 0)
}

// Promise 17.2: sets with the same number of elements are in increasing order of the
// masks, with those that have bit 31 last.
func TestOrderOfSameCount(t *testing.T) {
	l := elements(0, 32)
	checkOrder(t, l, elements(0, 32)...)
	slices.Reverse(l)
	checkOrder(t, l, elements(0, 32)...)
	checkOrder(t, []uint32{high, 1, 0x40000000, 2}, 1, 2, 0x40000000, 0x80000000)
	checkOrder(t, []uint32{high | 1, 3, 6, high | 2, 5}, 3, 5, 6, 0x80000001, 0x80000002)
	want := without(32 - 1)
	slices.Reverse(want)
	checkOrder(t, without(32-1), want...)
}

// Promise 17.2: the empty and the full set are last and first.
func TestOrderOfEnds(t *testing.T) {
	checkOrder(t, []uint32{0, full}, full, 0)
	checkOrder(t, []uint32{full, 0}, full, 0)
	checkOrder(t, []uint32{0, 1, full, high}, full, 1, high, 0)
	checkOrder(t, []uint32{full >> 1, 0, full - 1, full}, full, 0x7fffffff, 0xfffffffe, 0)
	checkOrder(t, []uint32{0, full, 0, full, 3}, full, 3, 0)
}

// Promise 17.2: all lists of up to four sets of three dimensions, against all sets.
func TestOrderOfAllSmall(t *testing.T) {
	for n := range 5 {
		lists(subsets(3), n, func(l []uint32) {
			checkOrder(t, l, defineOrder(l, 3)...)
		})
	}
}

// Promise 17.2: mixed lists of sets of ten dimensions, against all sets, short and long.
func TestOrderAgainstAll(t *testing.T) {
	m := mixer(6)
	for i := range 60 {
		var l []uint32
		for range m.below(1 << (i % 12)) {
			l = append(l, m.word()%1024)
		}
		checkOrder(t, l, defineOrder(l, 10)...)
	}
}

// Promise 17.2: mixed lists of any sets: the same sets, each one once, and each one
// behind those that precede it.
func TestOrderMixed(t *testing.T) {
	m := mixer(7)
	for range 2000 {
		l := m.list(m.below(40))
		got := lattice.Order(l)
		for _, a := range l {
			if !slices.Contains(got, a) {
				t.Fatalf("Order(%#x) is %#x: %#x is missing", l, got, a)
			}
		}
		for i, a := range got {
			if !slices.Contains(l, a) {
				t.Fatalf("Order(%#x) is %#x: %#x is not in the list", l, got, a)
			}
			for _, b := range got[:i] {
				n, before := defineCount(a), defineCount(b)
				if before < n || before == n && b >= a {
					t.Fatalf("Order(%#x) is %#x: %#x is before %#x", l, got, b, a)
				}
			}
		}
		checkOrder(t, got, got...)
		slices.Reverse(l)
		checkOrder(t, l, got...)
	}
}

// Promise 17.2: very many sets.
func TestOrderOfMany(t *testing.T) {
	l := subsets(16)
	got := lattice.Order(l)
	if len(got) != 1<<16 || got[0] != 1<<16-1 || got[1] != 1<<15-1 || got[16] != 1<<16-2 || got[1<<16-2] != 1<<15 || got[1<<16-1] != 0 {
		t.Errorf("Order of %d sets begins with %#x", len(l), brief(got))
	}
	checkOrder(t, append(l, l...), got...)
}
