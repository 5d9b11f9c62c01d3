package ratio_test

import (
	"slices"
	"testing"

	"bushel/nat"
	"bushel/ratio"
)

// R4 for the promises 4.1, 4.2 and 4.4: lists, and what stands behind them in
// memory, stay as they are; and R5: the same arguments give the same result.
func TestArgumentsStay(t *testing.T) {
	m := mixer(14)
	lengths := []int{1, 2, 31, 32, 33, 64, 100, 1000, 1001, 3000, 3001}
	for _, length := range lengths {
		for _, other := range lengths {
			a, b := behind(m.list(length)), behind(m.list(other))
			checkStay(t, a, b)
			checkStay(t, a, behind(nil))
			checkStay(t, behind(nil), a)
			checkStay(t, a, a)
		}
	}
}

// behind returns a list with trailing zero words, and others behind its end.
func behind(a []uint32) []uint32 {
	l := append(slices.Clone(a), 0, 0, 5, 0, 6)
	return l[:len(a)+2]
}

func checkStay(t *testing.T, a, b []uint32) {
	t.Helper()
	wholeA, wholeB := slices.Clone(a[:len(a)+3]), slices.Clone(b[:len(b)+3])
	results := func() []float64 {
		return []float64{
			ratio.Quot(false, a, b), ratio.Quot(true, a, b), ratio.Root(a, b),
			ratio.Dev(1, 0, a), ratio.Dev(most, least, b),
		}
	}
	first := results()
	if !slices.Equal(a[:len(a)+3], wholeA) || !slices.Equal(b[:len(b)+3], wholeB) {
		t.Errorf("arguments of %d and %d bits were changed", nat.Bits(a), nat.Bits(b))
	}
	for i, x := range results() {
		if !identical(x, first[i]) {
			t.Errorf("the same arguments, of %d and %d bits, gave %x and then %x", nat.Bits(a), nat.Bits(b), first[i], x)
		}
	}
}
