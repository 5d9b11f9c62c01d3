package lattice_test

import (
	"slices"
	"testing"

	"bushel/api"
	"bushel/lattice"
)

// Promise 17.1: sets between others, written out.
func TestBetween(t *testing.T) {
	checkBetween(t, 0, 1, 0, 1)
	checkBetween(t, 0, 7, 0, 1, 2, 3, 4, 5, 6, 7)
	checkBetween(t, 2, 7, 2, 3, 6, 7)
	checkBetween(t, 1, 11, 1, 3, 9, 11)
	checkBetween(t, 4, 6, 4, 6)
	checkBetween(t, 0, 0x50, 0, 0x10, 0x40, 0x50)
	checkBetween(t, 0x20, 0x70, 0x20, 0x30, 0x60, 0x70)
}

// Promise 17.1: between equal sets there is that set alone.
func TestBetweenEqual(t *testing.T) {
	checkBetween(t, 0, 0, 0)
	checkBetween(t, full, full, full)
	checkBetween(t, high, high, high)
	checkBetween(t, 1, 1, 1)
	m := mixer(4)
	for range 1000 {
		a := m.set()
		checkBetween(t, a, a, a)
	}
}

// Promise 17.1: elements at the bits 0 and 31, in increasing order.
func TestBetweenEnds(t *testing.T) {
	checkBetween(t, 0, high|1, 0, 1, 0x80000000, 0x80000001)
	checkBetween(t, 0, high, 0, 0x80000000)
	checkBetween(t, 1, high|1, 1, 0x80000001)
	checkBetween(t, high, high|1, 0x80000000, 0x80000001)
	checkBetween(t, high, high|3, 0x80000000, 0x80000001, 0x80000002, 0x80000003)
	checkBetween(t, 0x10, 0xc0000011, 0x10, 0x11, 0x40000010, 0x40000011, 0x80000010, 0x80000011, 0xc0000010, 0xc0000011)
	checkBetween(t, 0x7ffffffe, full, 0x7ffffffe, 0x7fffffff, 0xfffffffe, 0xffffffff)
}

// Promise 17.1: all pairs of sets of seven dimensions, against all sets of these.
func TestBetweenAllSmall(t *testing.T) {
	for _, a := range subsets(7) {
		for _, b := range subsets(7) {
			want, wanted := defineBetween(a, b, 7)
			got, errno := lattice.Between(a, b)
			checkSets(t, got, errno, want, wanted, "Between", a, b)
			// The same with the highest dimensions, and with others in both sets.
			for i := range want {
				want[i] = want[i]<<25 | 0x1234
			}
			got, errno = lattice.Between(a<<25|0x1234, b<<25|0x1234)
			checkSets(t, got, errno, want, wanted, "Between, moved,", a, b)
		}
	}
}

// Promise 17.1: a that is not a subset of b.
func TestBetweenNoSubset(t *testing.T) {
	checkBetweenFails(t, 1, 0, api.ErrArg)
	checkBetweenFails(t, 1, 2, api.ErrArg)
	checkBetweenFails(t, 2, 1, api.ErrArg)
	checkBetweenFails(t, 7, 3, api.ErrArg)
	checkBetweenFails(t, 3, 6, api.ErrArg)
	checkBetweenFails(t, high, 1, api.ErrArg)
	checkBetweenFails(t, high, 0, api.ErrArg)
	checkBetweenFails(t, 1, high, api.ErrArg)
	checkBetweenFails(t, full, 0, api.ErrArg)
	checkBetweenFails(t, full, full-1, api.ErrArg)
	checkBetweenFails(t, full, full>>1, api.ErrArg)
	// Without the elements that b lacks there would be no more than 12 others.
	checkBetweenFails(t, 0xf001, 0x0fff, api.ErrArg)
}

// Promise 17.1: a that is not a subset of b, which also has more than 12 elements more.
func TestBetweenErrorsInOrder(t *testing.T) {
	checkBetweenFails(t, 1, 0x7ffe, api.ErrArg)
	checkBetweenFails(t, 1, 0x3ffe, api.ErrArg)
	checkBetweenFails(t, 1, full-1, api.ErrArg)
	checkBetweenFails(t, high, full>>1, api.ErrArg)
	checkBetweenFails(t, high|1, full>>1, api.ErrArg)
	checkBetweenFails(t, 0xf, 0xffff0007, api.ErrArg)
	for i := range 32 {
		checkBetweenFails(t, 1<<i, full&^(1<<i), api.ErrArg)
	}
}

// Promise 17.1: b with 12 elements more than a, and with 13 and more.
func TestBetweenMany(t *testing.T) {
	checkBetween(t, 0, 0xfff, subsets(12)...)
	checkBetweenFails(t, 0, 0x1fff, api.ErrMany)
	checkBetweenFails(t, 0, full, api.ErrMany)
	checkBetweenFails(t, 1, full, api.ErrMany)
	checkBetweenFails(t, high, full, api.ErrMany)
	checkBetweenFails(t, 0x7ffff, full, api.ErrMany)
	for from := range 21 {
		b := uint32(0xfff) << from
		var want []uint32
		for _, a := range subsets(12) {
			want = append(want, a<<from)
		}
		checkBetween(t, 0, b, want...)
		if from > 0 {
			checkBetweenFails(t, 0, b|b>>1, api.ErrMany)
		}
	}
}

// Promise 17.1: how many elements b has more than a decides, not how many it has.
func TestBetweenElementsMore(t *testing.T) {
	for more := range 33 {
		for _, a := range []uint32{full << more, full >> more} {
			if more > 12 {
				checkBetweenFails(t, a, full, api.ErrMany)
				continue
			}
			l, errno := lattice.Between(a, full)
			if errno != api.OK || len(l) != 1<<more || l[0] != a || l[len(l)-1] != full {
				t.Errorf("Between(%#x, %#x) has the error %d and %d sets", a, full, errno, len(l))
			}
		}
	}
}

// addElements returns all sets that have a's elements and some of those that b has more:
// each of the latter doubles the list.
func addElements(a, b uint32) []uint32 {
	l := []uint32{a}
	for i := range 32 {
		if has(b, i) && !has(a, i) {
			for _, c := range slices.Clone(l) {
				l = append(l, c|1<<i)
			}
		}
	}
	return l
}

// Promise 17.1: mixed sets, up to 14 elements more.
func TestBetweenMixed(t *testing.T) {
	m := mixer(5)
	for range 3000 {
		a := m.set()
		b := a
		for range m.below(15) {
			b |= 1 << m.below(32)
		}
		if m.below(8) == 0 {
			a = m.set()
		}
		got, errno := lattice.Between(a, b)
		switch more := defineCount(b) - defineCount(a); {
		case !defineSub(a, b):
			checkSets(t, got, errno, nil, api.ErrArg, "Between", a, b)
		case more > 12:
			checkSets(t, got, errno, nil, api.ErrMany, "Between", a, b)
		default:
			checkSets(t, got, errno, addElements(a, b), api.OK, "Between", a, b)
		}
	}
}
