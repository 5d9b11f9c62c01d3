package code_test

import (
	"bytes"
	"slices"
	"testing"

	"bushel/code"
)

// spoil writes over b, and over what stands behind it in its memory.
func spoil(b []byte) {
	b = b[:cap(b)]
	for i := range b {
		b[i] ^= 0x5a
	}
}

// checkNew fails if two encodings of one value share memory, or if one is still
// kept after the call.
func checkNew[V any](t *testing.T, name string, encode, define func(V) []byte, l []V) {
	t.Helper()
	for _, x := range l {
		first, second := encode(x), encode(x)
		spoil(first)
		checkBytes(t, second, define(x), name+" beside a changed one of", x)
		checkBytes(t, encode(x), define(x), name+" after a change of one of", x)
	}
}

// R4 for promise 7.1: what U, I, F and T return belongs to the caller.
func TestEncodingsAreNew(t *testing.T) {
	checkNew(t, "U", code.U, defineU, unsigned())
	checkNew(t, "I", code.I, defineI, signed())
	checkNew(t, "F", code.F, defineF, floats())
	checkNew(t, "T", code.T, defineT, texts())
}

// checkKept fails if a Get function changes its bytes, or what stands behind them
// in their memory, or answers otherwise for the second time.
func checkKept[V any](t *testing.T, d decoder[V], define func(V) []byte, l []V) {
	t.Helper()
	for _, x := range l {
		b := define(x)
		whole := append(slices.Clone(b), 3, 0, 0, 9)
		before := slices.Clone(whole)
		for end := range whole {
			d.get(whole[:end])
		}
		d.check(t, whole[:len(b)], x, len(b))
		d.check(t, whole, x, len(b))
		checkBytes(t, whole, before, d.name+" changed the bytes of", x)
	}
}

// R4 for promise 7.2: the Get functions leave their bytes as they are.
func TestGetKeepsBytes(t *testing.T) {
	checkKept(t, getU, defineU, unsigned())
	checkKept(t, getI, defineI, signed())
	checkKept(t, getF, defineF, floats())
	checkKept(t, getT, defineT, texts()[:100])
}

// R4 for promise 7.2: a string that was read stays when the bytes change.
func TestGetTCopies(t *testing.T) {
	for _, s := range texts() {
		b := defineT(s)
		got, _, _ := code.GetT(b)
		spoil(b)
		if got != s {
			t.Errorf("%q became %q when its encoding was changed", s, got)
		}
	}
}

// R4 for promise 7.1: Less leaves its arguments as they are, also if they are one
// or overlap.
func TestLessKeepsBytes(t *testing.T) {
	b := []byte{5, 5, 5, 6, 0, 255}
	before := bytes.Clone(b)
	for i := range len(b) + 1 {
		for j := range len(b) + 1 {
			if got := code.Less(b[i:], b[j:]); got != precedes(before[i:], before[j:]) {
				t.Errorf("Less(%d, %d) = %t", before[i:], before[j:], got)
			}
			if got := code.Less(b[:i], b[:j]); got != (i < j) {
				t.Errorf("Less(%d, %d) = %t", before[:i], before[:j], got)
			}
		}
	}
	checkBytes(t, b, before, "Less changed its arguments")
}
