package key_test

import (
	"math"
	"slices"
	"testing"

	"bushel/api"
	"bushel/key"
)

// checkOf fails if Of does not return this key and this error.
func checkOf(t *testing.T, s api.Schema, mask uint32, codes []int, want uint64, errno api.Errno) {
	t.Helper()
	defer settle(t)
	if got, e := key.Of(s, mask, codes); got != want || e != errno {
		t.Errorf("Of(%s, %b, %d) = %d, %d; want %d, %d", text(s), mask, brief(codes), got, e, want, errno)
	}
}

// Promise 13.1: the chapter's example, and the other sets of its dimensions.
func TestOfExample(t *testing.T) {
	want := map[uint32]uint64{0: 0, 1: 1, 2: 2, 3: 5, 4: 3, 5: 7, 6: 11, 7: 23}
	for mask, k := range want {
		checkOf(t, example(), mask, []int{1, 2, 3}, k, api.OK)
	}
}

// Promise 13.1: keys that were computed by hand.
func TestOfKnown(t *testing.T) {
	checkOf(t, made(0, 0, 10, 10, 10, 10, 10, 10), 63, []int{1, 2, 3, 4, 5, 6}, 123456, api.OK)
	checkOf(t, made(0, 0, 10, 10, 10, 10, 10, 10), 21, []int{1, 2, 3, 4, 5, 6}, 135, api.OK)
	checkOf(t, made(0, 0, 24, 60, 60), 7, []int{13, 14, 15}, 47655, api.OK)
	checkOf(t, made(0, 0, 4096, 2), 3, []int{4095, 0}, 8190, api.OK)
	checkOf(t, made(0, 0, 2, 4096), 3, []int{1, 5}, 4101, api.OK)
	checkOf(t, fullest(), 63, []int{4095, 1, 4095, 7, 0, 4095}, 1<<40-1, api.OK)
	checkOf(t, made(0, 0, 1024, 1024, 1024, 1024), 15, []int{1, 0, 0, 0}, 1<<30, api.OK)
}

// Promise 13.1: for each set, the codes 0 have the key 0, and the last codes have the
// number of keys minus 1.
func TestOfEnds(t *testing.T) {
	for _, s := range samples() {
		first, last := make([]int, len(s.Dims)), make([]int, len(s.Dims))
		for i, d := range s.Dims {
			last[i] = d.Size - 1
		}
		for _, mask := range sets(s) {
			checkOf(t, s, mask, first, 0, api.OK)
			checkOf(t, s, mask, last, defineNumber(s, mask)-1, api.OK)
		}
	}
}

// lexicographic passes on the codes of a set in lexicographic order; the dimensions
// that are not in the set have a code that they cannot have.
func lexicographic(s api.Schema, mask uint32, use func(codes []int)) {
	codes := slices.Repeat([]int{-7}, len(s.Dims))
	var from func(i int)
	from = func(i int) {
		if i == len(s.Dims) {
			use(codes)
			return
		}
		if !defineIn(mask, i) {
			from(i + 1)
			return
		}
		for codes[i] = range s.Dims[i].Size {
			from(i + 1)
		}
	}
	from(0)
}

// Promise 13.1: the keys are those from 0 on, without a gap, in the lexicographic order
// of the codes.
func TestOfOrder(t *testing.T) {
	for _, s := range small() {
		for _, mask := range sets(s) {
			n := uint64(0)
			lexicographic(s, mask, func(codes []int) {
				checkOf(t, s, mask, codes, n, api.OK)
				n++
			})
			if n != defineNumber(s, mask) {
				t.Fatalf("the set %b of %s has %d codes", mask, text(s), n)
			}
		}
	}
}

// Promise 13.1: with a schema that is not valid, the error is ErrArg whatever the set
// and the codes are, so that nothing that is wrong with them comes before it.
func TestOfBadSchema(t *testing.T) {
	for _, s := range notValid() {
		for _, mask := range []uint32{0, 1, 2, 3, 7, 8, 63, 64, 1 << 31, math.MaxUint32} {
			for _, n := range []int{0, 1, 2, 3, len(s.Dims), len(s.Dims) + 1} {
				checkOf(t, s, mask, make([]int, n), 0, api.ErrArg)
				checkOf(t, s, mask, slices.Repeat([]int{1}, n), 0, api.ErrArg)
				checkOf(t, s, mask, slices.Repeat([]int{-1}, n), 0, api.ErrArg)
				checkOf(t, s, mask, slices.Repeat([]int{math.MaxInt}, n), 0, api.ErrArg)
			}
			checkOf(t, s, mask, nil, 0, api.ErrArg)
		}
	}
}

// Promise 13.1: a set with a bit that is not a dimension has ErrNone, with codes that
// would do, with a wrong number of them and with codes out of their range.
func TestOfNoSet(t *testing.T) {
	m := mixer(1)
	for _, s := range samples() {
		for _, mask := range noSets(s) {
			codes := m.codes(s)
			checkOf(t, s, mask, codes, 0, api.ErrNone)
			checkOf(t, s, mask, codes[1:], 0, api.ErrNone)
			checkOf(t, s, mask, append(codes, 0), 0, api.ErrNone)
			checkOf(t, s, mask, nil, 0, api.ErrNone)
			checkOf(t, s, mask, make([]int, 32), 0, api.ErrNone)
			codes[0] = -1
			checkOf(t, s, mask, codes, 0, api.ErrNone)
			checkOf(t, s, mask, codes[:len(codes)-1], 0, api.ErrNone)
		}
	}
}

// Promise 13.1: a number of codes other than that of the dimensions has ErrMany, for
// the empty set too, and also if a code is out of its range.
func TestOfMany(t *testing.T) {
	for _, s := range samples() {
		for _, mask := range sets(s) {
			for _, n := range []int{0, 1, 2, 3, 4, 5, 6, 7, 32, 1000} {
				if n == len(s.Dims) {
					continue
				}
				checkOf(t, s, mask, make([]int, n), 0, api.ErrMany)
				checkOf(t, s, mask, slices.Repeat([]int{-1}, n), 0, api.ErrMany)
				checkOf(t, s, mask, slices.Repeat([]int{math.MaxInt}, n), 0, api.ErrMany)
			}
			checkOf(t, s, mask, nil, 0, api.ErrMany)
		}
	}
}

// Promise 13.1: the codes are those of all dimensions, not of the set alone.
func TestOfManyOfTheSet(t *testing.T) {
	s := example()
	checkOf(t, s, 5, []int{1, 3}, 0, api.ErrMany)
	checkOf(t, s, 2, []int{1}, 0, api.ErrMany)
	checkOf(t, s, 0, []int{}, 0, api.ErrMany)
	checkOf(t, s, 0, []int{-1, 9, 9}, 0, api.OK)
	checkOf(t, s, 2, []int{-1, 2, -1}, 2, api.OK)
}

// Promise 13.1: codes at both ends of their range and beyond it, in each place. For a
// dimension in the set the range holds; for others any code does.
func TestOfRange(t *testing.T) {
	m := mixer(2)
	for _, s := range samples() {
		for i, d := range s.Dims {
			bad := append(wild(), -d.Size, d.Size, d.Size+1, d.Size+256, d.Size-1+1<<32, d.Size+1<<32)
			for _, mask := range sets(s) {
				codes := m.codes(s)
				for _, x := range []int{0, d.Size / 2, d.Size - 1} {
					codes[i] = x
					checkOf(t, s, mask, codes, defineKey(s, mask, codes), api.OK)
				}
				for _, x := range bad {
					codes[i] = x
					switch {
					case !defineIn(mask, i):
						checkOf(t, s, mask, codes, defineKey(s, mask, codes), api.OK)
					case x < 0 || x >= d.Size:
						checkOf(t, s, mask, codes, 0, api.ErrRange)
					}
				}
			}
		}
	}
}

// Promise 13.1: each code is held against the Size of its own dimension.
func TestOfRangeOfItsDimension(t *testing.T) {
	s := made(0, 0, 2, 5, 3)
	for _, mask := range sets(s) {
		for a := -1; a <= 6; a++ {
			for b := -1; b <= 6; b++ {
				for c := -1; c <= 6; c++ {
					codes := []int{a, b, c}
					want, errno := defineOf(s, mask, codes)
					checkOf(t, s, mask, codes, want, errno)
				}
			}
		}
	}
}

// Promise 13.1: measures and views make no difference.
func TestOfPlain(t *testing.T) {
	plain, rich := made(0, 0, 3, 5, 7), made(3, 2, 3, 5, 7)
	rich.Views = []uint32{0, 1, 2, 6}
	lexicographic(plain, 7, func(codes []int) {
		for _, mask := range sets(plain) {
			want, _ := key.Of(plain, mask, codes)
			checkOf(t, rich, mask, codes, want, api.OK)
		}
	})
}

// mixedCodes returns codes for a schema, of which some are often out of their range or
// too few or too many.
func (m *mixer) mixedCodes(s api.Schema) []int {
	l := m.codes(s)
	for range m.below(3) {
		if len(l) > 0 {
			l[m.below(len(l))] = of(m, wild())
		}
	}
	switch m.below(8) {
	case 0:
		l = append(l, 0)
	case 1:
		l = l[:len(l)/2]
	}
	return l
}

// mixedSet returns a set of a schema, or often a mask that is none.
func (m *mixer) mixedSet(s api.Schema) uint32 {
	mask := m.word() & defineFull(s)
	if m.below(5) == 0 {
		mask |= 1 << m.below(32)
	}
	return mask
}

// Promise 13.1: mixed sets and codes, of which all errors come often.
func TestOfMixed(t *testing.T) {
	m := mixer(3)
	all := append(samples(), notValid()[:9]...)
	count := map[api.Errno]int{}
	for range 60000 {
		s := of(&m, all)
		mask := m.mixedSet(s)
		codes := []int{1, 2, 3}
		if _, errno := defineCodes(s, 0, 0); errno == api.OK {
			codes = m.mixedCodes(s)
		}
		want, errno := defineOf(s, mask, codes)
		checkOf(t, s, mask, codes, want, errno)
		count[errno]++
	}
	for _, errno := range []api.Errno{api.OK, api.ErrArg, api.ErrNone, api.ErrMany, api.ErrRange} {
		if count[errno] < 2000 {
			t.Errorf("only %d mixed calls have the error %d", count[errno], errno)
		}
	}
}
