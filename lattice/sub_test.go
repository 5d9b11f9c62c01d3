package lattice_test

import "testing"

// Promise 17.1: all pairs of sets of six dimensions, as masks of the lowest bits and of
// the highest ones.
func TestSubOfAllSmall(t *testing.T) {
	for _, a := range subsets(6) {
		for _, b := range subsets(6) {
			want := defineSub(a, b)
			checkSub(t, a, b, want)
			checkSub(t, a<<26, b<<26, want)
			checkSub(t, a<<13, b<<13, want)
		}
	}
}

// Promise 17.1: equal sets, and the empty and the full one.
func TestSubOfEqual(t *testing.T) {
	m := mixer(1)
	for range 2000 {
		a := m.set()
		checkSub(t, a, a, true)
		checkSub(t, 0, a, true)
		checkSub(t, a, full, true)
		checkSub(t, a, 0, a == 0)
		checkSub(t, full, a, a == full)
	}
}

// Promise 17.1: a set with one element, at each bit, more or less than another one.
func TestSubOneElement(t *testing.T) {
	for i := range 32 {
		one := uint32(1) << i
		for _, a := range []uint32{0, 1, 6, high, high | 1, 0x55555555, 0xaaaaaaaa, 0x0f0f0f0f, full} {
			checkSub(t, a&^one, a|one, true)
			checkSub(t, a|one, a&^one, false)
			checkSub(t, a|one, full, true)
			checkSub(t, a|one, full&^one, false)
		}
		checkSub(t, one, full&^one, false)
		checkSub(t, one, one, true)
		checkSub(t, full&^one, one, false)
	}
}

// Promise 17.1: sets that are no subsets in the lowest or in the highest bit alone,
// written out.
func TestSubEnds(t *testing.T) {
	checkSub(t, 1, 0xfffffffe, false)
	checkSub(t, 7, 6, false)
	checkSub(t, 0x80000000, 0x7fffffff, false)
	checkSub(t, 0xc0000000, 0x40000000, false)
	checkSub(t, 0x80000001, 0x80000000, false)
	checkSub(t, 0x80000001, 0x00000001, false)
	checkSub(t, 0x80000001, 0x80000003, true)
	checkSub(t, 0x80000000, 0xffffffff, true)
	// The lesser mask is not the subset.
	checkSub(t, 1, 2, false)
	checkSub(t, 3, 4, false)
	checkSub(t, 5, 10, false)
}

// Promise 17.1: mixed sets.
func TestSubMixed(t *testing.T) {
	m := mixer(2)
	for range 20000 {
		a, b := m.set(), m.set()
		checkSub(t, a, b, defineSub(a, b))
		checkSub(t, a&b, b, true)
		checkSub(t, a, a|b, true)
	}
}

// Promise 17.1: Count of the empty set, of the full one, and of others, written out.
func TestCount(t *testing.T) {
	checkCount(t, 0, 0)
	checkCount(t, 1, 1)
	checkCount(t, 2, 1)
	checkCount(t, 3, 2)
	checkCount(t, 0x80000000, 1)
	checkCount(t, 0x80000001, 2)
	checkCount(t, 0x7fffffff, 31)
	checkCount(t, 0xfffffffe, 31)
	checkCount(t, 0xffffffff, 32)
	checkCount(t, 0x55555555, 16)
	checkCount(t, 0x12345678, 13)
}

// Promise 17.1: Count of the first elements, of one, of all but one, and of mixed sets.
func TestCountMixed(t *testing.T) {
	for i := range 32 {
		checkCount(t, full>>i, 32-i)
		checkCount(t, full<<i, 32-i)
		checkCount(t, 1<<i, 1)
		checkCount(t, ^(1 << i), 31)
	}
	for _, a := range subsets(12) {
		checkCount(t, a, defineCount(a))
		checkCount(t, a<<20, defineCount(a))
		checkCount(t, ^a, 32-defineCount(a))
	}
	m := mixer(3)
	for range 20000 {
		a := m.set()
		checkCount(t, a, defineCount(a))
	}
}
