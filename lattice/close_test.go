package lattice_test

import (
	"slices"
	"testing"

	"bushel/lattice"
)

// Promise 17.4: the chapter's example.
func TestCloseExample(t *testing.T) {
	checkClose(t, []uint32{3, 6}, 2, 3, 6)
}

// Promise 17.4: closures, written out.
func TestClose(t *testing.T) {
	checkClose(t, []uint32{6, 3}, 2, 3, 6)
	checkClose(t, []uint32{3, 5, 6}, 0, 1, 2, 3, 4, 5, 6)
	checkClose(t, []uint32{7, 3, 5}, 1, 3, 5, 7)
	checkClose(t, []uint32{1, 3, 7, 15}, 1, 3, 7, 15)
	checkClose(t, []uint32{15, 7, 3, 1}, 1, 3, 7, 15)
	checkClose(t, []uint32{11, 13, 14}, 8, 9, 10, 11, 12, 13, 14)
	checkClose(t, []uint32{0x33, 0x36}, 0x32, 0x33, 0x36)
	checkClose(t, []uint32{0x0f, 0x33, 0x0b, 0x27}, 0x03, 0x07, 0x0b, 0x0f, 0x23, 0x27, 0x33)
	// What three have in common is in it too, although no two have just that.
	checkClose(t, []uint32{0x37, 0x3b, 0x3d}, 0x31, 0x33, 0x35, 0x37, 0x39, 0x3b, 0x3d)
}

// Promise 17.4: no sets, and one.
func TestCloseOfFew(t *testing.T) {
	checkClose(t, nil)
	checkClose(t, []uint32{})
	checkClose(t, []uint32{3}[:0])
	for _, a := range []uint32{0, 1, 2, 3, 0x1234, high, high | 1, full} {
		checkClose(t, []uint32{a}, a)
	}
}

// Promise 17.4: equal sets.
func TestCloseOfEqual(t *testing.T) {
	for _, a := range []uint32{0, 1, 6, high, full} {
		for n := 2; n <= 12; n++ {
			checkClose(t, slices.Repeat([]uint32{a}, n), a)
		}
	}
	checkClose(t, []uint32{3, 3, 6, 3, 6, 6}, 2, 3, 6)
	checkClose(t, []uint32{6, 2, 3, 2, 6, 3}, 2, 3, 6)
	checkClose(t, []uint32{0, 5, 0, 5, 0}, 0, 5)
}

// Promise 17.4: disjoint sets have the empty one in common, which is in the closure of
// one set only if it is that set.
func TestCloseOfDisjoint(t *testing.T) {
	checkClose(t, []uint32{1, 2}, 0, 1, 2)
	checkClose(t, []uint32{high, 1}, 0, 1, 0x80000000)
	checkClose(t, []uint32{0xc0000000, 0x30000000, 3}, 0, 3, 0x30000000, 0xc0000000)
	checkClose(t, []uint32{0x55555555, 0xaaaaaaaa}, 0, 0x55555555, 0xaaaaaaaa)
	checkClose(t, []uint32{0, full}, 0, full)
	checkClose(t, []uint32{0, 0}, 0)
	for n := 2; n <= 12; n++ {
		checkClose(t, elements(20, n), append([]uint32{0}, elements(20, n)...)...)
		checkClose(t, elements(0, n), append([]uint32{0}, elements(0, n)...)...)
	}
}

// Promise 17.4: the masks are in increasing order, with those that have bit 31 last.
func TestCloseOrder(t *testing.T) {
	checkClose(t, []uint32{high | 3, 7, high | 6}, 2, 3, 6, 7, 0x80000002, 0x80000003, 0x80000006)
	checkClose(t, []uint32{full, high, full >> 1}, 0, 0x7fffffff, 0x80000000, 0xffffffff)
	checkClose(t, []uint32{high | 1, high | 2}, 0x80000000, 0x80000001, 0x80000002)
	// Neither in the order of Order, nor in that of the list.
	checkClose(t, []uint32{8, 7, 3, 12}, 0, 3, 4, 7, 8, 12)
}

// Promise 17.4: exactly 12 elements, and 11: the largest closures.
func TestCloseMost(t *testing.T) {
	checkClose(t, without(12), subsets(12)[:1<<12-1]...)
	checkClose(t, without(11), subsets(11)[:1<<11-1]...)
	checkClose(t, append([]uint32{1<<11 - 1}, without(11)...), subsets(11)...)
	var moved, want []uint32
	for _, a := range without(12) {
		moved = append(moved, a<<20)
	}
	for _, a := range subsets(12)[:1<<12-1] {
		want = append(want, a<<20)
	}
	checkClose(t, moved, want...)
	slices.Reverse(moved)
	checkClose(t, moved, want...)
	checkClose(t, []uint32{1, 2, 3, 4, 5, 6, 7, 8, 9, 10, 11, 12}, 0, 1, 2, 3, 4, 5, 6, 7, 8, 9, 10, 11, 12)
}

// Promise 17.4: 13 elements and more, whatever they are: also if some of them are equal.
func TestCloseMany(t *testing.T) {
	checkCloseFails(t, without(13))
	checkCloseFails(t, without(14))
	checkCloseFails(t, elements(0, 13))
	checkCloseFails(t, elements(0, 32))
	checkCloseFails(t, subsets(10))
	checkCloseFails(t, append(without(12), 1<<12-1))
	checkCloseFails(t, append(without(12), without(12)[0]))
	checkCloseFails(t, append(without(12), without(12)...))
	checkCloseFails(t, []uint32{1, 2, 3, 1, 2, 3, 1, 2, 3, 1, 2, 3, 1})
	for _, a := range []uint32{0, 1, high, full} {
		for n := 13; n < 30; n++ {
			checkCloseFails(t, slices.Repeat([]uint32{a}, n))
		}
		checkCloseFails(t, slices.Repeat([]uint32{a}, 1<<16))
		checkCloseFails(t, slices.Repeat([]uint32{a}, 1<<16+12))
	}
}

// checkClosed fails if what Close returns is not closed, or has an element that is no
// intersection, or lacks a set that was given.
func checkClosed(t *testing.T, l []uint32) {
	t.Helper()
	got, _ := lattice.Close(l)
	in := map[uint32]bool{}
	for _, a := range got {
		in[a] = true
		if !isIntersection(l, a) {
			t.Fatalf("Close(%#x) has %#x, which is no intersection", l, a)
		}
	}
	for _, a := range l {
		if !in[a] {
			t.Fatalf("Close(%#x) does not have %#x", l, a)
		}
	}
	for i, a := range got {
		for _, b := range got[:i] {
			if !in[a&b] {
				t.Fatalf("Close(%#x) does not have %#x, but %#x and %#x", l, a&b, a, b)
			}
		}
	}
}

// Promises 17.4 and 17.5: all lists of up to four sets of three dimensions, against all
// sets.
func TestCloseOfAllSmall(t *testing.T) {
	for n := range 5 {
		lists(subsets(3), n, func(l []uint32) {
			want, _ := defineClose(l, 3)
			checkClose(t, l, want...)
			checkClosed(t, l)
		})
	}
}

// Promises 17.4 and 17.5: mixed lists of sets of eight dimensions, against all sets, of
// up to 15 elements.
func TestCloseAgainstAll(t *testing.T) {
	m := mixer(11)
	for range 400 {
		var l []uint32
		for range m.below(16) {
			l = append(l, (m.word()|m.word())%256)
		}
		got, errno := lattice.Close(l)
		want, wanted := defineClose(l, 8)
		checkSets(t, got, errno, want, wanted, "Close", l)
		if len(l) <= 12 {
			checkClosed(t, l)
		}
	}
}

// Promises 17.4 and 17.5: mixed lists of any sets.
func TestCloseMixed(t *testing.T) {
	m := mixer(12)
	for range 300 {
		l := m.list(m.below(13))
		if m.below(3) == 0 {
			for i := range l {
				l[i] |= m.word() | m.word()
			}
		}
		want := defineCloseAny(l)
		checkClose(t, l, want...)
		if len(want) < 600 {
			checkClosed(t, l)
		}
		mixed := slices.Clone(l)
		slices.Reverse(mixed)
		checkClose(t, mixed, want...)
	}
}

// Promise 17.5: the largest closures.
func TestClosedMost(t *testing.T) {
	checkClosed(t, without(12))
	checkClosed(t, elements(0, 12))
}

// Promise 17.5: what is closed already stays as it is, with a set that is its closure
// listed in any order.
func TestCloseAgain(t *testing.T) {
	m := mixer(13)
	for range 2000 {
		l, _ := lattice.Close(m.list(m.below(4)))
		checkClose(t, l, l...)
		slices.Reverse(l)
		again, errno := lattice.Close(l)
		slices.Reverse(l)
		checkSets(t, again, errno, l, 0, "Close, again,", l)
	}
}
