package key_test

import (
	"slices"
	"testing"

	"bushel/api"
	"bushel/key"
)

// checkRound fails if Codes does not invert Of for the dimensions of the set, or Of
// does not invert Codes.
func checkRound(t *testing.T, s api.Schema, mask uint32, codes []int) {
	t.Helper()
	defer settle(t)
	k, errno := key.Of(s, mask, codes)
	if errno != api.OK {
		t.Errorf("Of(%s, %b, %d) has the error %d", text(s), mask, codes, errno)
	}
	want := slices.Clone(codes)
	for i := range want {
		if !defineIn(mask, i) {
			want[i] = -1
		}
	}
	checkCodes(t, s, mask, k, want)
	checkOf(t, s, mask, want, k, api.OK)
}

// Promise 13.4: Codes of what Of returned, for mixed codes of all sets; those that are
// not in the set may be any.
func TestRound(t *testing.T) {
	m := mixer(31)
	for _, s := range samples() {
		for _, mask := range sets(s) {
			for range 10 {
				codes := m.codes(s)
				checkRound(t, s, mask, codes)
				for i := range codes {
					if !defineIn(mask, i) {
						codes[i] = of(&m, wild())
					}
				}
				checkRound(t, s, mask, codes)
			}
		}
	}
}

// Promise 13.4: Codes of what Of returned, for each code of a dimension.
func TestRoundEachCode(t *testing.T) {
	s := made(0, 0, 4096, 3, 4096)
	for _, mask := range sets(s) {
		for x := range 4096 {
			checkRound(t, s, mask, []int{x, x % 3, 4095 - x})
		}
	}
}

// Promise 13.4: Of what Codes returned is the key.
func TestRoundOfKeys(t *testing.T) {
	m := mixer(32)
	for _, s := range samples() {
		for _, mask := range sets(s) {
			for _, k := range m.keysOf(s, mask) {
				codes, errno := key.Codes(s, mask, k)
				if errno != api.OK {
					t.Fatalf("Codes(%s, %b, %d) has the error %d", text(s), mask, k, errno)
				}
				checkOf(t, s, mask, codes, k, api.OK)
			}
		}
	}
}

// Promise 13.4: different codes of a set have different keys.
func TestRoundDiffers(t *testing.T) {
	for _, s := range small() {
		for _, mask := range sets(s) {
			seen := map[uint64]bool{}
			lexicographic(s, mask, func(codes []int) {
				k, _ := key.Of(s, mask, codes)
				if seen[k] {
					t.Fatalf("two codes of the set %b of %s have the key %d", mask, text(s), k)
				}
				seen[k] = true
			})
		}
	}
}

// Promise 13.4: Down in two steps is Down in one, for all sets within one another.
func TestTwoSteps(t *testing.T) {
	m := mixer(33)
	for _, s := range samples() {
		for _, from := range sets(s) {
			for _, over := range subsets(from) {
				for _, to := range subsets(over) {
					k := of(&m, m.keysOf(s, from))
					half, _ := key.Down(s, from, over, k)
					want, errno := key.Down(s, from, to, k)
					checkDown(t, s, over, to, half, want, api.OK)
					if errno != api.OK {
						t.Fatalf("Down(%s, %b, %b, %d) has the error %d", text(s), from, to, k, errno)
					}
				}
			}
		}
	}
}

// Promise 13.4: Down of what Of returned is Of for the smaller set.
func TestDownOfKeys(t *testing.T) {
	m := mixer(34)
	for _, s := range samples() {
		for _, from := range sets(s) {
			for _, to := range subsets(from) {
				codes := m.codes(s)
				k, _ := key.Of(s, from, codes)
				want, _ := key.Of(s, to, codes)
				checkDown(t, s, from, to, k, want, api.OK)
			}
		}
	}
}
