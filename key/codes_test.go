package key_test

import (
	"math"
	"slices"
	"testing"

	"bushel/api"
	"bushel/key"
)

// checkCodes fails if Codes does not return these codes, or if Code does not return
// each of them.
func checkCodes(t *testing.T, s api.Schema, mask uint32, k uint64, want []int) {
	t.Helper()
	defer settle(t)
	if got, errno := key.Codes(s, mask, k); !slices.Equal(got, want) || errno != api.OK {
		t.Errorf("Codes(%s, %b, %d) = %d, %d; want %d, 0", text(s), mask, k, got, errno, want)
	}
	for i, code := range want {
		checkCode(t, s, mask, k, i, code)
	}
}

// checkCodesError fails if Codes does not return this error and no codes, or if Code
// returns a code for any dimension.
func checkCodesError(t *testing.T, s api.Schema, mask uint32, k uint64, want api.Errno) {
	t.Helper()
	defer settle(t)
	if got, errno := key.Codes(s, mask, k); len(got) > 0 || errno != want {
		t.Errorf("Codes(%s, %b, %d) = %d, %d; want no codes, %d", text(s), mask, k, got, errno, want)
	}
	for i := range len(s.Dims) + 1 {
		checkCode(t, s, mask, k, i, -1)
	}
}

// checkCode fails if Code does not return this code.
func checkCode(t *testing.T, s api.Schema, mask uint32, k uint64, dim, want int) {
	t.Helper()
	defer settle(t)
	if got := key.Code(s, mask, k, dim); got != want {
		t.Errorf("Code(%s, %b, %d, %d) = %d; want %d", text(s), mask, k, dim, got, want)
	}
}

// Promise 13.2: the keys of the chapter's example.
func TestCodesExample(t *testing.T) {
	checkCodes(t, example(), 7, 23, []int{1, 2, 3})
	checkCodes(t, example(), 5, 7, []int{1, -1, 3})
	checkCodes(t, example(), 6, 11, []int{-1, 2, 3})
	checkCodes(t, example(), 3, 5, []int{1, 2, -1})
	checkCodes(t, example(), 4, 3, []int{-1, -1, 3})
	checkCodes(t, example(), 2, 2, []int{-1, 2, -1})
	checkCodes(t, example(), 1, 1, []int{1, -1, -1})
	checkCodes(t, example(), 0, 0, []int{-1, -1, -1})
}

// Promise 13.2: codes that were computed by hand.
func TestCodesKnown(t *testing.T) {
	checkCodes(t, made(0, 0, 10, 10, 10, 10, 10, 10), 63, 123456, []int{1, 2, 3, 4, 5, 6})
	checkCodes(t, made(0, 0, 10, 10, 10, 10, 10, 10), 21, 135, []int{1, -1, 3, -1, 5, -1})
	checkCodes(t, made(0, 0, 24, 60, 60), 7, 47655, []int{13, 14, 15})
	checkCodes(t, made(0, 0, 4096, 2), 3, 8190, []int{4095, 0})
	checkCodes(t, made(0, 0, 2, 4096), 3, 4101, []int{1, 5})
	checkCodes(t, fullest(), 63, 1<<40-1, []int{4095, 1, 4095, 7, 0, 4095})
	checkCodes(t, made(0, 0, 1024, 1024, 1024, 1024), 15, 1<<30, []int{1, 0, 0, 0})
}

// Promise 13.2: all keys in order have the codes in lexicographic order.
func TestCodesOrder(t *testing.T) {
	for _, s := range small() {
		for _, mask := range sets(s) {
			k := uint64(0)
			lexicographic(s, mask, func(codes []int) {
				want := slices.Clone(codes)
				for i := range want {
					if !defineIn(mask, i) {
						want[i] = -1
					}
				}
				checkCodes(t, s, mask, k, want)
				k++
			})
			checkCodesError(t, s, mask, k, api.ErrRange)
		}
	}
}

// Promise 13.2: keys of each set from the first to the last one, and numbers that are
// no keys of it, from the number of its keys on.
func TestCodesRange(t *testing.T) {
	m := mixer(11)
	for _, s := range samples() {
		for _, mask := range sets(s) {
			for _, k := range m.keysOf(s, mask) {
				want, _ := defineCodes(s, mask, k)
				checkCodes(t, s, mask, k, want)
			}
			for _, k := range m.noKeys(s, mask) {
				if k >= defineNumber(s, mask) {
					checkCodesError(t, s, mask, k, api.ErrRange)
				}
			}
		}
	}
}

// Promise 13.2: the empty set has the key 0 alone.
func TestCodesEmptySet(t *testing.T) {
	for _, s := range samples() {
		checkCodes(t, s, 0, 0, slices.Repeat([]int{-1}, len(s.Dims)))
		for _, k := range []uint64{1, 2, 1 << 32, 1 << 63, math.MaxUint64} {
			checkCodesError(t, s, 0, k, api.ErrRange)
		}
	}
}

// Promise 13.2: the number of keys is that of the set, not that of all dimensions.
func TestCodesRangeOfTheSet(t *testing.T) {
	checkCodesError(t, example(), 5, 8, api.ErrRange)
	checkCodesError(t, example(), 5, 23, api.ErrRange)
	checkCodesError(t, example(), 1, 2, api.ErrRange)
	checkCodesError(t, example(), 7, 24, api.ErrRange)
	checkCodesError(t, example(), 0, 1, api.ErrRange)
}

// Promise 13.2: with a schema that is not valid, the error is ErrArg whatever the set
// and the key are, and Code has -1.
func TestCodesBadSchema(t *testing.T) {
	for _, s := range notValid() {
		for _, mask := range []uint32{0, 1, 2, 3, 7, 8, 63, 64, 1 << 31, math.MaxUint32} {
			for _, k := range []uint64{0, 1, 2, 1 << 40, 1 << 63, math.MaxUint64} {
				checkCodesError(t, s, mask, k, api.ErrArg)
			}
		}
	}
}

// Promise 13.2: a set with a bit that is not a dimension has ErrNone, whether the key
// is one of the dimensions or far above, and Code has -1.
func TestCodesNoSet(t *testing.T) {
	for _, s := range samples() {
		for _, mask := range noSets(s) {
			for _, k := range []uint64{0, 1, 1 << 40, 1 << 63, math.MaxUint64} {
				checkCodesError(t, s, mask, k, api.ErrNone)
			}
		}
	}
}

// Promise 13.2: Code for a dimension in the set, for one that is not, and for numbers
// that are no dimensions.
func TestCodeDims(t *testing.T) {
	m := mixer(12)
	for _, s := range samples() {
		for _, mask := range sets(s) {
			for _, k := range append(m.keysOf(s, mask), m.noKeys(s, mask)...) {
				for _, dim := range dims(s) {
					checkCode(t, s, mask, k, dim, defineCode(s, mask, k, dim))
				}
			}
		}
	}
}

// Promise 13.2: Code for numbers that are no dimensions, whatever else is wrong.
func TestCodeNoDim(t *testing.T) {
	for _, s := range append(samples(), notValid()...) {
		for _, mask := range []uint32{0, 1, 3, 63, 64, 1 << 31, math.MaxUint32} {
			for _, k := range []uint64{0, 1, 1 << 40, math.MaxUint64} {
				for _, dim := range dims(s) {
					checkCode(t, s, mask, k, dim, defineCode(s, mask, k, dim))
				}
			}
		}
	}
}

// Promise 13.2: measures and views make no difference.
func TestCodesPlain(t *testing.T) {
	rich := made(3, 2, 3, 5, 7)
	rich.Views = []uint32{0, 1, 2, 6}
	for _, mask := range sets(rich) {
		for k := range defineNumber(rich, mask) {
			want, _ := key.Codes(made(0, 0, 3, 5, 7), mask, k)
			checkCodes(t, rich, mask, k, want)
		}
	}
}

// mixedKey returns a number that is often a key of the set.
func (m *mixer) mixedKey(s api.Schema, mask uint32) uint64 {
	n := max(defineNumber(s, mask&defineFull(s)), 1)
	switch m.below(6) {
	case 0:
		return n - 1
	case 1:
		return n
	case 2:
		return m.long() >> m.below(64)
	}
	return m.long() % n
}

// Promise 13.2: mixed sets and keys, of which all errors come often.
func TestCodesMixed(t *testing.T) {
	m := mixer(13)
	all := append(samples(), notValid()[:9]...)
	count := map[api.Errno]int{}
	for range 60000 {
		s := of(&m, all)
		mask := m.mixedSet(s)
		k := m.mixedKey(s, mask)
		want, errno := defineCodes(s, mask, k)
		if errno == api.OK {
			checkCodes(t, s, mask, k, want)
		} else {
			checkCodesError(t, s, mask, k, errno)
		}
		dim := of(&m, dims(s))
		checkCode(t, s, mask, k, dim, defineCode(s, mask, k, dim))
		count[errno]++
	}
	for _, errno := range []api.Errno{api.OK, api.ErrArg, api.ErrNone, api.ErrRange} {
		if count[errno] < 2000 {
			t.Errorf("only %d mixed calls have the error %d", count[errno], errno)
		}
	}
}
