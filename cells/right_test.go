package cells_test

import (
	"math"
	"slices"
	"testing"

	"bushel/api"
	"bushel/cells"
)

// checkRight fails if Right has not this answer.
func checkRight(t *testing.T, s api.Schema, mask uint32, l []api.Cell, want bool) {
	t.Helper()
	if cells.Right(s, mask, l) != want {
		t.Fatalf("Right(%v, %b, %d cells %v) is %v", s, mask, len(l), brief(l), !want)
	}
}

// Promise 15.1: valid lists of all sets.
func TestRight(t *testing.T) {
	m := mixer(1)
	for _, s := range samples() {
		for _, mask := range sets(s) {
			for _, n := range []int{1, 2, 3, 10, 30} {
				checkRight(t, s, mask, m.list(s, mask, n), true)
			}
		}
	}
	checkRight(t, plainSchema(), 7, plains(0, 1, 5, 23), true)
	checkRight(t, plainSchema(), 6, plains(0, 1, 5, 11), true)
	checkRight(t, plainSchema(), 0, plains(0), true)
	checkRight(t, made(0, 0, 4096), 1, keyed(0, 4095), true)
}

// Promise 15.1: every key of a set at once.
func TestRightAllKeys(t *testing.T) {
	for _, mask := range sets(plainSchema()) {
		var l []api.Cell
		for k := range defineKeys(plainSchema(), mask) {
			l = append(l, plain(k))
		}
		checkRight(t, plainSchema(), mask, l, true)
		checkRight(t, plainSchema(), mask, append(l, plain(uint64(len(l)))), false)
	}
}

// Promise 15.1: the empty list is valid for each set, but only for sets.
func TestRightEmpty(t *testing.T) {
	for _, none := range [][]api.Cell{nil, {}, plains(9)[:0]} {
		for _, s := range samples() {
			for _, mask := range sets(s) {
				checkRight(t, s, mask, none, true)
			}
			for _, mask := range noSets(s) {
				checkRight(t, s, mask, none, false)
			}
		}
		for _, s := range notValid() {
			for _, mask := range []uint32{0, 1, 3, 1 << 31, math.MaxUint32} {
				checkRight(t, s, mask, none, false)
			}
		}
	}
}

// Promise 15.1: schemas that are not valid, and sets with a bit that is not a dimension.
func TestRightBadSet(t *testing.T) {
	m := mixer(2)
	for _, s := range samples() {
		for _, mask := range noSets(s) {
			l := m.list(s, 0, 1)
			checkRight(t, s, 0, l, true)
			checkRight(t, s, mask, l, false)
			l = m.list(s, full(s), 5)
			checkRight(t, s, full(s), l, true)
			checkRight(t, s, mask, l, false)
		}
	}
	for _, s := range notValid() {
		l := []api.Cell{{Count: 1, Ints: make([]api.Whole, len(s.Ints)), Nums: slices.Repeat([]api.Real{{Sum: sumOf()}}, len(s.Nums))}}
		for _, mask := range []uint32{0, 1, 3, 1 << 31, math.MaxUint32} {
			checkRight(t, s, mask, l, false)
			checkRight(t, s, mask, keyed(0), false)
		}
	}
}

// Promise 15.1: Keys that are equal or decreasing anywhere, of cells that are all valid.
func TestRightKeys(t *testing.T) {
	s := made(0, 0, 4096, 4096, 4096)
	checkRight(t, s, 7, keyed(0, 1, 1<<32, 1<<36-1), true)
	for _, keys := range notIncreasing() {
		checkRight(t, s, 7, keyed(keys...), false)
	}
	for _, keys := range [][]uint64{{1 << 32, 1}, {1<<32 + 1, 1 << 32}, {1<<36 - 1, 0}, {1 << 35, 1 << 35}, {3, 2, 1}, {0, 1 << 32, 1}} {
		checkRight(t, s, 7, keyed(keys...), false)
	}
	same := plains(3, 3)
	same[1].Count++
	checkRight(t, plainSchema(), 7, same, false)
}

// Promise 15.1: two cells in the wrong order, or with the same Key, in each place of a
// longer list.
func TestRightKeysInEachPlace(t *testing.T) {
	keys := []uint64{0, 2, 4, 6, 8, 10, 12, 14, 16, 18, 20, 22}
	for i := range keys[1:] {
		l := plains(keys...)
		checkRight(t, plainSchema(), 7, l, true)
		l[i], l[i+1] = l[i+1], l[i]
		checkRight(t, plainSchema(), 7, l, false)
		l[i], l[i+1] = l[i+1], l[i]
		l[i+1].Key = l[i].Key
		checkRight(t, plainSchema(), 7, l, false)
		l[i+1].Key++
		checkRight(t, plainSchema(), 7, l, true)
	}
}

// Promise 15.1: one cell that is not valid, in each place.
func TestRightCells(t *testing.T) {
	for _, fault := range faults() {
		for i := range 4 {
			l := plains(1, 3, 4, 23)
			fault(&l[i])
			checkRight(t, plainSchema(), 7, l, false)
			checkRight(t, plainSchema(), 7, l[i:i+1], false)
			checkRight(t, plainSchema(), 7, slices.Delete(l, i, i+1), true)
		}
	}
}

// Promise 15.1: the Keys are held against the number of keys of the set, not of all
// dimensions.
func TestRightGreatKeys(t *testing.T) {
	for _, s := range samples() {
		for _, mask := range sets(s) {
			n := defineKeys(s, mask)
			m := mixer(3)
			checkRight(t, s, mask, []api.Cell{m.cell(s, n-1)}, true)
			checkRight(t, s, mask, []api.Cell{m.cell(s, n)}, false)
			checkRight(t, s, mask, []api.Cell{m.cell(s, 0), m.cell(s, n)}, false)
			checkRight(t, s, mask, []api.Cell{m.cell(s, n-1), m.cell(s, n)}, false)
		}
	}
}

// Promise 15.1: mixed lists, valid and not.
func TestRightMixed(t *testing.T) {
	m := mixer(4)
	count := map[bool]int{}
	for range 5000 {
		s := of(&m, samples())
		mask := of(&m, sets(s))
		l := m.list(s, mask, m.below(12))
		if len(l) > 0 {
			c := &l[m.below(len(l))]
			switch m.below(6) {
			case 0:
				c.Key = l[m.below(len(l))].Key
			case 1:
				c.Key++
			case 2:
				c.Count -= 500
			}
		}
		mask = of(&m, []uint32{mask, mask, mask, of(&m, sets(s)), of(&m, noSets(s))})
		want := defineRight(s, mask, l)
		checkRight(t, s, mask, l, want)
		count[want]++
	}
	if count[true] < 1000 || count[false] < 1000 {
		t.Errorf("%d mixed lists are valid, and %d are not", count[true], count[false])
	}
}
