package advise_test

import (
	"math"
	"slices"
	"testing"

	"bushel/advise"
	"bushel/api"
)

const (
	full  = uint32(1<<32 - 1)
	high  = uint32(1 << 31)
	large = int64(1 << 40)
)

// anyK has a number of sets of each kind, for Choose.
var anyK = []int{math.MinInt, -64, -1, 0, 1, 2, 3, 63, 64, 65, math.MaxInt}

// mixer makes the same numbers in every run.
type mixer uint64

func (m *mixer) word() uint32 {
	*m = *m*6364136223846793005 + 1442695040888963407
	return uint32(*m >> 32)
}

// below returns a number from 0 to n - 1.
func (m *mixer) below(n int) int {
	return int(m.word() % uint32(n))
}

// of returns one of the elements.
func of[E any](m *mixer, l []E) E {
	return l[m.below(len(l))]
}

// size returns a size of each kind.
func (m *mixer) size() int64 {
	return of(m, []int64{1, 2, large, large - 1, int64(m.below(5)) + 1, int64(m.below(100)) + 1, int64(m.word()) + 1, int64(m.word())<<8 + 1})
}

// sizes returns the sizes of so many dimensions: any ones, few different ones, some as
// large as the base, or such as views have (none is smaller than one of its subsets).
func (m *mixer) sizes(dims int) []int64 {
	kind, most := m.below(4), m.below(20)+2
	l := make([]int64, 1<<dims)
	for i := range l {
		switch kind {
		case 0:
			l[i] = m.size()
		case 1:
			l[i] = int64(m.below(3)) + 1
		case 2:
			l[i] = of(m, []int64{int64(m.below(most)) + 1, int64(most)})
		case 3:
			l[i] = int64(m.below(most)) + 1
			for j := range i {
				if j&i == j {
					l[i] = max(l[i], l[j])
				}
			}
		}
	}
	if kind == 2 {
		l[len(l)-1] = int64(most)
	}
	return l
}

// views returns n sets of so many dimensions, some of which are equal, empty or the base.
func (m *mixer) views(dims, n int) []uint32 {
	base := uint32(1)<<dims - 1
	var l []uint32
	for range n {
		v := of(m, []uint32{0, base, m.word() & base, m.word() & base, m.word() & base})
		if len(l) > 0 && m.below(4) == 0 {
			v = of(m, l)
		}
		l = append(l, v)
	}
	return l
}

// equalSizes returns the sizes of so many dimensions, which are all the same.
func equalSizes(dims int, size int64) []int64 {
	return slices.Repeat([]int64{size}, 1<<dims)
}

// countSizes returns for each set of so many dimensions one more than it has elements,
// so that each view is smaller than all that it could be computed from.
func countSizes(dims int) []int64 {
	l := equalSizes(dims, 1)
	for i := range l {
		for d := range dims {
			if has(uint32(i), d) {
				l[i]++
			}
		}
	}
	return l
}

// changed returns a copy of the list with x at an index.
func changed[E any](l []E, i int, x E) []E {
	l = slices.Clone(l)
	l[i] = x
	return l
}

// lists calls do with all lists of n of these elements.
func lists[E any](of []E, n int, do func(l []E)) {
	l := make([]E, n)
	places := 1
	for range n {
		places *= len(of)
	}
	for place := range places {
		for i := range l {
			l[i] = of[place%len(of)]
			place /= len(of)
		}
		do(l)
	}
}

// brief returns a list, or of a long one the beginning, for a message.
func brief[E any](l []E) []E {
	return l[:min(len(l), 64)]
}

// checkCost fails if Cost does not have this cost, or Gain not what the base alone costs
// more.
func checkCost(t *testing.T, dims int, sizes []int64, views []uint32, want int64) {
	t.Helper()
	got, errno := advise.Cost(dims, sizes, views)
	if errno != api.OK || got != want {
		t.Fatalf("Cost(%d, %v, %d) is %d, with the error %d; want %d", dims, brief(sizes), brief(views), got, errno, want)
	}
	want = int64(len(sizes))*sizes[len(sizes)-1] - want
	got, errno = advise.Gain(dims, sizes, views)
	if errno != api.OK || got != want {
		t.Fatalf("Gain(%d, %v, %d) is %d, with the error %d; want %d", dims, brief(sizes), brief(views), got, errno, want)
	}
}

// checkDefined fails if Cost and Gain do not have what the definitions have.
func checkDefined(t *testing.T, dims int, sizes []int64, views []uint32) {
	t.Helper()
	checkCost(t, dims, sizes, views, defineCost(dims, sizes, views))
	gain, errno := advise.Gain(dims, sizes, views)
	if want := defineGain(dims, sizes, views); errno != api.OK || gain != want {
		t.Fatalf("Gain(%d, %v, %d) is %d, with the error %d; want %d", dims, brief(sizes), brief(views), gain, errno, want)
	}
}

// checkChoose fails if Choose does not have these sets.
func checkChoose(t *testing.T, dims int, sizes []int64, k int, want ...uint32) {
	t.Helper()
	got, errno := advise.Choose(dims, sizes, k)
	if errno != api.OK || !slices.Equal(got, want) {
		t.Fatalf("Choose(%d, %v, %d) is %d, with the error %d; want %d", dims, brief(sizes), k, got, errno, want)
	}
}

// checkFails fails if Cost and Gain do not have this error, with 0.
func checkFails(t *testing.T, dims int, sizes []int64, views []uint32, want api.Errno) {
	t.Helper()
	got, errno := advise.Cost(dims, sizes, views)
	if errno != want || got != 0 {
		t.Fatalf("Cost(%d, %v, %#x) is %d, with the error %d; want the error %d", dims, brief(sizes), brief(views), got, errno, want)
	}
	got, errno = advise.Gain(dims, sizes, views)
	if errno != want || got != 0 {
		t.Fatalf("Gain(%d, %v, %#x) is %d, with the error %d; want the error %d", dims, brief(sizes), brief(views), got, errno, want)
	}
}

// checkAllFail fails if Cost, Gain and, whatever the number of sets, Choose do not have
// this error, which is that of the dimensions and the sizes.
func checkAllFail(t *testing.T, dims int, sizes []int64, want api.Errno) {
	t.Helper()
	for _, views := range [][]uint32{nil, {0}, {1, 0}, {high}, {0, full}} {
		checkFails(t, dims, sizes, views, want)
	}
	for _, k := range anyK {
		got, errno := advise.Choose(dims, sizes, k)
		if errno != want || len(got) > 0 {
			t.Fatalf("Choose(%d, %v, %d) is %d, with the error %d; want the error %d", dims, brief(sizes), k, got, errno, want)
		}
	}
}
