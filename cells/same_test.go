package cells_test

import (
	"math"
	"slices"
	"testing"

	"bushel/api"
	"bushel/cells"
)

// checkSame fails if Same, asked in both orders, has not this answer.
func checkSame(t *testing.T, a, b []api.Cell, want bool) {
	t.Helper()
	if cells.Same(a, b) != want {
		t.Fatalf("Same(%v, %v) is %v", brief(a), brief(b), !want)
	}
	if cells.Same(b, a) != want {
		t.Fatalf("Same(%v, %v) is %v", brief(b), brief(a), !want)
	}
}

// Promise 15.1: lists that are the same, in other memory too.
func TestSame(t *testing.T) {
	m := mixer(5)
	for _, s := range samples() {
		for _, n := range []int{1, 2, 5, 30} {
			l := m.list(s, full(s), n)
			checkSame(t, l, l, true)
			checkSame(t, l, cloneAll(l), true)
		}
	}
}

// Promise 15.1: there is no difference between no list and an empty one, outside and
// inside of cells.
func TestSameEmpty(t *testing.T) {
	lists := [][]api.Cell{nil, {}, plains(5)[:0]}
	for _, a := range lists {
		for _, b := range lists {
			checkSame(t, a, b, true)
		}
		checkSame(t, a, []api.Cell{{}}, false)
		checkSame(t, a, keyed(0), false)
	}
	checkSame(t, []api.Cell{{}}, []api.Cell{{Ints: []api.Whole{}, Nums: []api.Real{}}}, true)
	checkSame(t, []api.Cell{{Ints: []api.Whole{{}}}}, []api.Cell{{Ints: []api.Whole{{Squares: []uint32{}}}}}, true)
}

// Promise 15.1: lists of other lengths, of which one begins or ends with the other.
func TestSameOtherLength(t *testing.T) {
	l := plains(0, 1, 2, 3, 4, 5)
	for i := range l {
		checkSame(t, l, l[:i], false)
		checkSame(t, l, l[i+1:], false)
		checkSame(t, l, slices.Delete(slices.Clone(l), i, i+1), false)
		checkSame(t, l, append(slices.Clone(l), l[i]), false)
		checkSame(t, l, append(slices.Clone(l), api.Cell{}), false)
	}
}

// Promise 15.1: one other number, in each cell.
func TestSameOtherNumber(t *testing.T) {
	for _, difference := range differences() {
		for i := range 3 {
			l := plains(0, 2, 4)
			difference(&l[i])
			checkSame(t, plains(0, 2, 4), l, false)
			checkSame(t, l, cloneAll(l), true)
		}
	}
}

// Promise 15.1: 0 and -0 differ, all NaN values are one, and trailing zero words count.
func TestSameOfNumbers(t *testing.T) {
	with := func(x float64) []api.Cell {
		return []api.Cell{{Count: 1}, {Key: 1, Nums: []api.Real{{Min: x, Max: x}}}}
	}
	checkSame(t, with(0), with(minus0), false)
	checkSame(t, with(nan), with(math.Float64frombits(0xfff8000000000007)), true)
	checkSame(t, with(nan), with(infinity), false)
	checkSame(t, with(1), with(1), true)
	words := func(words ...uint32) []api.Cell { return []api.Cell{{Ints: []api.Whole{{Squares: words}}}} }
	checkSame(t, words(1), words(1, 0), false)
	checkSame(t, words(), words(0), false)
	checkSame(t, words(1, 0), words(1, 0), true)
}

// Promise 15.1: the order counts, and lists that are not valid are compared all the
// same.
func TestSameOrder(t *testing.T) {
	checkSame(t, keyed(1, 2), keyed(2, 1), false)
	checkSame(t, keyed(2, 1), keyed(2, 1), true)
	checkSame(t, keyed(2, 2), keyed(2, 2), true)
	checkSame(t, keyed(2, 2), keyed(2), false)
	for _, keys := range notIncreasing() {
		checkSame(t, keyed(keys...), keyed(keys...), true)
	}
	for _, fault := range faults() {
		a, b := plains(3), plains(3)
		fault(&a[0])
		fault(&b[0])
		checkSame(t, a, b, true)
		checkSame(t, a, plains(3), false)
	}
}
