package lattice_test

import (
	"slices"
	"testing"

	"bushel/api"
	"bushel/lattice"
)

const (
	full = uint32(1<<32 - 1)
	high = uint32(1 << 31)
)

// mixer makes the same numbers in every run.
type mixer uint64

func (m *mixer) word() uint32 {
	*m = *m*6364136223846793005 + 1442695040888963407
	return uint32(*m >> 32)
}

// below returns a number from 0 to n - 1.
func (m *mixer) below(n int) int {
	return int(m.word() % uint32(n))
}

// of returns one of the elements.
func of[E any](m *mixer, l []E) E {
	return l[m.below(len(l))]
}

// set returns a set of each kind: of few elements, of many, of the lowest ones alone,
// and with the highest one.
func (m *mixer) set() uint32 {
	return of(m, []uint32{
		0, 1, high, full, high | 1, full >> 1,
		m.word(), m.word() & m.word() & m.word(), m.word() | m.word() | m.word(),
		m.word() % 8, m.word() % 8, m.word() % 64, ^(m.word() % 64), 1 << m.below(32), m.word()%8 | high,
	})
}

// list returns n sets, some of which are equal, or subsets of others.
func (m *mixer) list(n int) []uint32 {
	var l []uint32
	for range n {
		a := m.set()
		if len(l) > 0 {
			a = of(m, []uint32{a, a, of(m, l), of(m, l) & a, of(m, l) | a})
		}
		l = append(l, a)
	}
	return l
}

// sizes returns n sizes, some of which are equal or negative.
func (m *mixer) sizes(n int) []int {
	var l []int
	for range n {
		l = append(l, of(m, []int{0, 1, 2, 3, m.below(10), m.below(1 << 30), -1, -m.below(5)}))
	}
	return l
}

// subsets returns all subsets of the set of the first n dimensions.
func subsets(n int) []uint32 {
	l := make([]uint32, 1<<n)
	for i := range l {
		l[i] = uint32(i)
	}
	return l
}

// elements returns the sets of one element, for n elements from the one at bit from.
func elements(from, n int) []uint32 {
	var l []uint32
	for i := range n {
		l = append(l, 1<<(from+i))
	}
	return l
}

// without returns, for n elements, the sets that have all of them but one.
func without(n int) []uint32 {
	all := uint32(1)<<n - 1
	var l []uint32
	for i := range n {
		l = append(l, all&^(1<<i))
	}
	return l
}

// lists calls do with all lists of n of these elements.
func lists[E any](of []E, n int, do func(l []E)) {
	l := make([]E, n)
	places := 1
	for range n {
		places *= len(of)
	}
	for place := range places {
		for i := range l {
			l[i] = of[place%len(of)]
			place /= len(of)
		}
		do(l)
	}
}

// brief returns a list, or of a long one the beginning, for a message.
func brief[E any](l []E) []E {
	return l[:min(len(l), 16)]
}

// checkSets fails if a call has not this list of sets and this error. Beside an error,
// the list must be empty. What the call was given is told if it fails.
func checkSets(t *testing.T, got []uint32, errno api.Errno, want []uint32, wanted api.Errno, call ...any) {
	t.Helper()
	if errno != wanted {
		t.Fatalf("%v has the error %d; want %d", call, errno, wanted)
	}
	if errno != api.OK && len(got) > 0 {
		t.Fatalf("%v has the error %d and %d sets", call, errno, len(got))
	}
	if !slices.Equal(got, want) {
		t.Fatalf("%v has %d sets: %#x; want %d sets: %#x", call, len(got), brief(got), len(want), brief(want))
	}
}

// checkSub fails if Sub does not have this answer.
func checkSub(t *testing.T, a, b uint32, want bool) {
	t.Helper()
	if got := lattice.Sub(a, b); got != want {
		t.Fatalf("Sub(%#x, %#x) is %v", a, b, got)
	}
}

// checkCount fails if Count does not have this answer.
func checkCount(t *testing.T, a uint32, want int) {
	t.Helper()
	if got := lattice.Count(a); got != want {
		t.Fatalf("Count(%#x) is %d; want %d", a, got, want)
	}
}

// checkBetween fails if Between does not have these sets.
func checkBetween(t *testing.T, a, b uint32, want ...uint32) {
	t.Helper()
	got, errno := lattice.Between(a, b)
	checkSets(t, got, errno, want, api.OK, "Between", a, b)
}

// checkBetweenFails fails if Between does not have this error.
func checkBetweenFails(t *testing.T, a, b uint32, want api.Errno) {
	t.Helper()
	got, errno := lattice.Between(a, b)
	checkSets(t, got, errno, nil, want, "Between", a, b)
}

// checkOrder fails if Order does not have these sets.
func checkOrder(t *testing.T, l []uint32, want ...uint32) {
	t.Helper()
	checkSets(t, lattice.Order(l), api.OK, want, api.OK, "Order", brief(l))
}

// checkCover fails if Cover does not have this index.
func checkCover(t *testing.T, views []uint32, sizes []int, need uint32, want int) {
	t.Helper()
	if got := lattice.Cover(views, sizes, need); got != want {
		t.Fatalf("Cover(%#x, %v, %#x) is %d; want %d", brief(views), brief(sizes), need, got, want)
	}
}

// checkSteps fails if Steps does not have these indexes.
func checkSteps(t *testing.T, views []uint32, sizes []int, want ...int) {
	t.Helper()
	if got := lattice.Steps(views, sizes); !slices.Equal(got, want) {
		t.Fatalf("Steps(%#x, %v) is %v; want %v", brief(views), brief(sizes), brief(got), brief(want))
	}
}

// checkClose fails if Close does not have these sets.
func checkClose(t *testing.T, l []uint32, want ...uint32) {
	t.Helper()
	got, errno := lattice.Close(l)
	checkSets(t, got, errno, want, api.OK, "Close", l)
}

// checkCloseFails fails if Close does not have the error ErrMany.
func checkCloseFails(t *testing.T, l []uint32) {
	t.Helper()
	got, errno := lattice.Close(l)
	checkSets(t, got, errno, nil, api.ErrMany, "Close", brief(l))
}
