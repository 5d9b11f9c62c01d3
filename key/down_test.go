package key_test

import (
	"math"
	"slices"
	"testing"

	"bushel/api"
	"bushel/key"
)

// checkDown fails if Down does not return this key and this error.
func checkDown(t *testing.T, s api.Schema, from, to uint32, k, want uint64, errno api.Errno) {
	t.Helper()
	defer settle(t)
	if got, e := key.Down(s, from, to, k); got != want || e != errno {
		t.Errorf("Down(%s, %b, %b, %d) = %d, %d; want %d, %d", text(s), from, to, k, got, e, want, errno)
	}
}

// subsets returns the subsets of a set, itself and the empty one too.
func subsets(mask uint32) []uint32 {
	l := []uint32{mask}
	for to := mask; to != 0; {
		to = (to - 1) & mask
		l = append(l, to)
	}
	return l
}

// Promise 13.3: the keys of the chapter's example.
func TestDownExample(t *testing.T) {
	for to, k := range map[uint32]uint64{0: 0, 1: 1, 2: 2, 3: 5, 4: 3, 5: 7, 6: 11, 7: 23} {
		checkDown(t, example(), 7, to, 23, k, api.OK)
	}
	checkDown(t, example(), 5, 1, 7, 1, api.OK)
	checkDown(t, example(), 5, 4, 7, 3, api.OK)
	checkDown(t, example(), 5, 4, 6, 2, api.OK)
	checkDown(t, example(), 5, 5, 6, 6, api.OK)
	checkDown(t, example(), 5, 0, 6, 0, api.OK)
}

// Promise 13.3: keys that were computed by hand.
func TestDownKnown(t *testing.T) {
	s := made(0, 0, 10, 10, 10, 10, 10, 10)
	checkDown(t, s, 63, 21, 123456, 135, api.OK)
	checkDown(t, s, 63, 42, 123456, 246, api.OK)
	checkDown(t, s, 62, 33, 23456, 0, api.ErrNone)
	checkDown(t, s, 62, 34, 23456, 26, api.OK)
	checkDown(t, made(0, 0, 24, 60, 60), 7, 3, 47655, 13*60+14, api.OK)
	checkDown(t, fullest(), 63, 36, 1<<40-1, 4095*4096+4095, api.OK)
}

// Promise 13.3: all keys of all sets, to each subset: the key of the same codes.
func TestDownAll(t *testing.T) {
	for _, s := range []api.Schema{example(), made(0, 0, 1), made(0, 0, 5), made(0, 0, 2, 1, 3, 2, 1, 2), made(1, 1, 3, 5, 7)} {
		for _, from := range sets(s) {
			k := uint64(0)
			lexicographic(s, from, func(codes []int) {
				for _, to := range subsets(from) {
					checkDown(t, s, from, to, k, defineKey(s, to, codes), api.OK)
				}
				k++
			})
		}
	}
}

// Promise 13.3: a set to itself leaves the key as it is, and the empty set has the key
// 0 for every key.
func TestDownEnds(t *testing.T) {
	m := mixer(21)
	for _, s := range samples() {
		for _, from := range sets(s) {
			for _, k := range m.keysOf(s, from) {
				checkDown(t, s, from, from, k, k, api.OK)
				checkDown(t, s, from, 0, k, 0, api.OK)
			}
		}
	}
}

// Promise 13.3: keys of each set from the first to the last one, and numbers that are
// no keys of it, to each subset.
func TestDownRange(t *testing.T) {
	m := mixer(22)
	for _, s := range samples() {
		for _, from := range sets(s) {
			for _, to := range subsets(from) {
				for _, k := range append(m.keysOf(s, from), m.noKeys(s, from)...) {
					want, errno := defineDown(s, from, to, k)
					checkDown(t, s, from, to, k, want, errno)
				}
			}
		}
	}
}

// Promise 13.3: the key is held against the number of keys of from, not of to.
func TestDownRangeOfFrom(t *testing.T) {
	checkDown(t, example(), 7, 0, 24, 0, api.ErrRange)
	checkDown(t, example(), 5, 1, 8, 0, api.ErrRange)
	checkDown(t, example(), 0, 0, 1, 0, api.ErrRange)
	checkDown(t, example(), 0, 0, 0, 0, api.OK)
	checkDown(t, example(), 4, 4, 3, 3, api.OK)
	checkDown(t, example(), 4, 4, 4, 0, api.ErrRange)
}

// Promise 13.3: with a schema that is not valid, the error is ErrArg whatever the sets
// and the key are.
func TestDownBadSchema(t *testing.T) {
	masks := []uint32{0, 1, 2, 3, 7, 8, 63, 64, 1 << 31, math.MaxUint32}
	for _, s := range notValid() {
		for _, from := range masks {
			for _, to := range masks {
				for _, k := range []uint64{0, 1, 1 << 40, math.MaxUint64} {
					checkDown(t, s, from, to, k, 0, api.ErrArg)
				}
			}
		}
	}
}

// Promise 13.3: a set from with a bit that is not a dimension has ErrNone, with any set
// to and any key.
func TestDownNoSet(t *testing.T) {
	for _, s := range samples() {
		for _, from := range noSets(s) {
			for _, to := range []uint32{0, 1, defineFull(s), from, from & defineFull(s), from &^ 1, math.MaxUint32} {
				for _, k := range []uint64{0, 1, 1 << 40, math.MaxUint64} {
					checkDown(t, s, from, to, k, 0, api.ErrNone)
				}
			}
		}
	}
}

// Promise 13.3: a set to that is no subset of from has ErrNone, be it of dimensions
// or not, and also if the key is too great.
func TestDownNoSubset(t *testing.T) {
	m := mixer(23)
	for _, s := range samples() {
		for _, from := range sets(s) {
			for _, to := range slices.Concat(sets(s), noSets(s)) {
				if to&^from == 0 {
					continue
				}
				for _, k := range append(m.keysOf(s, from), m.noKeys(s, from)...) {
					checkDown(t, s, from, to, k, 0, api.ErrNone)
				}
			}
		}
	}
}

// Promise 13.3: mixed sets and keys, of which all errors come often.
func TestDownMixed(t *testing.T) {
	m := mixer(24)
	all := append(samples(), notValid()[:9]...)
	count := map[api.Errno]int{}
	for range 60000 {
		s := of(&m, all)
		from := m.mixedSet(s)
		to := from & m.word()
		if m.below(8) == 0 {
			to = m.mixedSet(s)
		}
		k := m.mixedKey(s, from)
		want, errno := defineDown(s, from, to, k)
		checkDown(t, s, from, to, k, want, errno)
		count[errno]++
	}
	for _, errno := range []api.Errno{api.OK, api.ErrArg, api.ErrNone, api.ErrRange} {
		if count[errno] < 2000 {
			t.Errorf("only %d mixed calls have the error %d", count[errno], errno)
		}
	}
}
