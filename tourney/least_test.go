package tourney_test

import (
	"bytes"
	"math"
	"slices"
	"testing"

	"bushel/code"
	"bushel/tourney"
)

// checkIndexes fails if a call has not these indexes.
func checkIndexes(t *testing.T, got, want []int, call ...any) {
	t.Helper()
	if !slices.Equal(got, want) {
		t.Fatalf("%v has %d indexes: %v; want %d indexes: %v", call, len(got), brief(got), len(want), brief(want))
	}
}

// checkLeast fails if Least has not these indexes.
func checkLeast(t *testing.T, l [][]byte, k int, want ...int) {
	t.Helper()
	checkIndexes(t, tourney.Least(l, k), want, "Least", brief(l), k)
}

// checkSorted fails if Sort has not these indexes, or Least not so many of them from the
// first on, for each number.
func checkSorted(t *testing.T, l [][]byte, want ...int) {
	t.Helper()
	checkIndexes(t, tourney.Sort(l), want, "Sort", brief(l))
	for _, k := range []int{math.MinInt, -1 << 32, -1, 0} {
		checkLeast(t, l, k)
	}
	for k := range want {
		checkLeast(t, l, k, want[:k]...)
	}
	for _, k := range []int{len(want), len(want) + 1, 2 * len(want), 1 << 32, math.MaxInt} {
		checkLeast(t, l, k, want...)
	}
}

// texts returns these texts as byte strings.
func texts(l ...string) [][]byte {
	var all [][]byte
	for _, s := range l {
		all = append(all, []byte(s))
	}
	return all
}

// numbers returns the numbers from 0 to n - 1.
func numbers(n int) []int {
	l := make([]int, n)
	for i := range l {
		l[i] = i
	}
	return l
}

// Promise 16.2: the chapter's example.
func TestLeastExample(t *testing.T) {
	l := texts("b", "a", "b", "aa")
	checkLeast(t, l, 2, 1, 3)
	checkSorted(t, l, 1, 3, 0, 2)
}

// Promise 16.2: no byte strings, and one.
func TestLeastOfFew(t *testing.T) {
	checkSorted(t, nil)
	checkSorted(t, [][]byte{})
	checkSorted(t, texts("a")[:0])
	for _, b := range [][]byte{nil, {}, {0}, {255}, []byte("abc")} {
		checkSorted(t, [][]byte{b}, 0)
	}
}

// Promise 16.2: k is below 0, 0, 1, less than the number of byte strings, that number
// and more.
func TestLeastNumbers(t *testing.T) {
	l := texts("c", "a", "d", "b")
	for _, k := range []int{math.MinInt, math.MinInt + 1, -4, -1, 0} {
		checkLeast(t, l, k)
	}
	checkLeast(t, l, 1, 1)
	checkLeast(t, l, 2, 1, 3)
	checkLeast(t, l, 3, 1, 3, 0)
	for _, k := range []int{4, 5, 8, 1 << 31, 1<<32 + 1, math.MaxInt - 1, math.MaxInt} {
		checkLeast(t, l, k, 1, 3, 0, 2)
	}
}

// Promise 16.2: equal byte strings are ordered by index, in the same memory or not.
func TestLeastEqual(t *testing.T) {
	for _, b := range [][]byte{nil, {}, {0}, {7, 7, 7}, {255, 128}} {
		for _, n := range []int{2, 3, 4, 5, 8, 15, 16, 17, 50} {
			checkSorted(t, slices.Repeat([][]byte{b}, n), numbers(n)...)
			var l [][]byte
			for range n {
				l = append(l, bytes.Clone(b))
			}
			checkSorted(t, l, numbers(n)...)
		}
	}
	checkSorted(t, texts("b", "a", "b", "a", "b", "a", "a"), 1, 3, 5, 6, 0, 2, 4)
	checkSorted(t, texts("a", "a", "b", "b", "a", "a"), 0, 1, 4, 5, 2, 3)
}

// Promise 16.2: the empty byte string comes first, and there is no difference between
// nil and one of length 0.
func TestLeastEmpty(t *testing.T) {
	checkSorted(t, [][]byte{{0}, nil}, 1, 0)
	checkSorted(t, [][]byte{{}, nil, {}}, 0, 1, 2)
	checkSorted(t, [][]byte{nil, {}, nil}, 0, 1, 2)
	checkSorted(t, [][]byte{{1}, {}, {0}, nil, {0, 0}, {255}, {}}, 1, 3, 6, 2, 4, 0, 5)
}

// Promise 16.2: one that is the beginning of another one comes first, and otherwise the
// first byte that differs decides, not the length.
func TestLeastBeginnings(t *testing.T) {
	checkSorted(t, texts("abc", "ab", "abcd", "a", "", "abd"), 4, 3, 1, 0, 2, 5)
	checkSorted(t, texts("b", "aaaaaaaaaaaa", "ab", "b\x00", "a\xff"), 1, 2, 4, 0, 3)
	checkSorted(t, [][]byte{{0, 0, 0}, {0, 0}, {0}, {0, 1}, {0, 0, 1}}, 2, 1, 0, 4, 3)
	checkSorted(t, [][]byte{{9, 8, 7, 6, 5, 4, 3, 2, 1}, {9, 8, 7, 6, 5, 4, 3, 2, 0, 255}, {9, 8, 7, 6, 5, 4, 3, 2}}, 2, 1, 0)
}

// Promise 16.2: bytes above 127 come after the others.
func TestLeastHighBytes(t *testing.T) {
	checkSorted(t, [][]byte{{128}, {127}, {255}, {0}, {1}, {254}}, 3, 4, 1, 0, 5, 2)
	checkSorted(t, [][]byte{{5, 200}, {5, 100}, {200}, {100, 255}, {5, 128, 1}, {5, 127, 9}}, 1, 5, 4, 0, 3, 2)
	// Bytes that are one rune, or no valid one, are bytes.
	checkSorted(t, texts("\u00e9", "z", "\xc3", "\xff\xfe", "\u65e5", "\x80"), 1, 5, 2, 0, 4, 3)
	var all [][]byte
	for b := range 256 {
		all = append(all, []byte{byte(b)})
	}
	checkSorted(t, all, numbers(256)...)
	slices.Reverse(all)
	down := numbers(256)
	slices.Reverse(down)
	checkSorted(t, all, down...)
}

// Promise 16.2: lists in order and in reverse, of each length.
func TestSortInOrder(t *testing.T) {
	for n := range 70 {
		var l [][]byte
		for i := range n {
			l = append(l, code.U(uint64(i*i)))
		}
		checkSorted(t, l, numbers(n)...)
		slices.Reverse(l)
		down := numbers(n)
		slices.Reverse(down)
		checkSorted(t, l, down...)
	}
}

// Promise 16.2: all orders of five byte strings, of which two are equal.
func TestSortAllOrders(t *testing.T) {
	l := texts("a", "ab", "b", "b", "c")
	for n := range 5 * 5 * 5 * 5 * 5 {
		var mixed [][]byte
		for x, i := n, 0; i < 5; i++ {
			mixed = append(mixed, l[x%5])
			x /= 5
		}
		want := defineSort(mixed)
		checkIndexes(t, tourney.Sort(mixed), want, "Sort", mixed)
		k := n % 7
		checkIndexes(t, tourney.Least(mixed, k), want[:min(k, 5)], "Least", mixed, k)
	}
}

// Promise 16.2: the numbers in one byte string tell the order: many of them.
func TestSortMany(t *testing.T) {
	m := mixer(4)
	want := numbers(20000)
	mix(&m, want)
	l := make([][]byte, len(want))
	for i, place := range want {
		l[place] = code.I(int64(i-10000) * 1e12)
	}
	checkIndexes(t, tourney.Sort(l), want, "Sort")
	for _, k := range []int{1, 2, 100, 19999, 20000, 20001} {
		checkIndexes(t, tourney.Least(l, k), want[:min(k, 20000)], "Least", k)
	}
}

// mixedBytes returns n byte strings, many of which are equal or begin in the same way.
func (m *mixer) mixedBytes(n int) [][]byte {
	var l [][]byte
	for range n {
		b := make([]byte, m.below(6))
		for i := range b {
			b[i] = of(m, []byte{0, 0, 1, 127, 128, 255, 255})
		}
		if len(l) > 0 && m.below(3) == 0 {
			b = append(bytes.Clone(of(m, l)), b[:len(b)/2]...)
		}
		l = append(l, b)
	}
	return l
}

// Promise 16.2: mixed byte strings.
func TestLeastMixed(t *testing.T) {
	m := mixer(5)
	for range 1500 {
		l := m.mixedBytes(m.below(50))
		want := defineSort(l)
		checkIndexes(t, tourney.Sort(l), want, "Sort", l)
		for _, k := range []int{-m.below(5), 1, m.below(50), len(l), len(l) + m.below(5)} {
			checkIndexes(t, tourney.Least(l, k), defineLeast(l, k), "Least", l, k)
		}
	}
}
