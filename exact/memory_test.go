package exact_test

import (
	"bytes"
	"slices"
	"testing"

	"bushel/exact"
)

// spoil writes over b, and over what stands behind it in its memory.
func spoil(b []byte) {
	b = b[:cap(b)]
	for i := range b {
		b[i] ^= 0x5a
	}
}

// R4 for promise 5.3: what Bytes returns belongs to the caller, who may write
// into it or append to it.
func TestBytesAreNew(t *testing.T) {
	for _, x := range all() {
		s := sumOf(t, x, 0.1)
		want := modelOf(x, 0.1).encoding()
		first, second := s.Bytes(), s.Bytes()
		spoil(first)
		if !bytes.Equal(second, want) {
			t.Errorf("two encodings of %x share memory", x)
		}
		checkBytes(t, s, want, x, "after its encoding was changed")
		if !s.Add(2) {
			t.Fatal("an addition was refused")
		}
		if !bytes.Equal(second, want) {
			t.Errorf("an encoding of %x changed with the sum", x)
		}
	}
}

// R4 for promise 5.3: Read leaves its bytes, and what stands behind them, as they
// are, and keeps none of them; two sums that were read are two.
func TestReadKeepsNothing(t *testing.T) {
	for _, x := range all() {
		want := modelOf(x, -0.1).encoding()
		whole := append(slices.Clone(want), 1, 2, 3, 4)
		b := whole[:len(want)]
		s, o := read(t, b), read(t, b)
		for i := range b {
			if _, errno := exact.Read(b[:i]); errno == 0 {
				t.Errorf("a part of %x was read", b)
			}
		}
		if !bytes.Equal(whole, append(slices.Clone(want), 1, 2, 3, 4)) {
			t.Errorf("Read changed the bytes of %x", want)
		}
		spoil(b)
		checkBytes(t, s, want, x, "after the bytes were changed")
		if !s.Add(3) {
			t.Fatal("an addition was refused")
		}
		checkBytes(t, o, want, x, "after another sum from the same bytes was changed")
	}
}

// R4 for promise 5.2: Total leaves its list, and what stands behind it, as it is.
func TestTotalKeepsList(t *testing.T) {
	whole := append(all(), 7, nan, 8)
	before := slices.Clone(whole)
	for i := range len(whole) {
		first := exact.Total(whole[:i])
		checkFloat(t, exact.Total(whole[:i]), first, "Total for the second time", i)
	}
	for i := range whole {
		checkFloat(t, whole[i], before[i], "the element", i)
	}
}

// Sums are independent of each other: what is added to one is in no other.
func TestSumsAreApart(t *testing.T) {
	a, b := exact.New(), exact.New()
	if !a.Add(5) {
		t.Fatal("an addition was refused")
	}
	checkBytes(t, b, encoding(0, 0), "an empty sum")
	if !b.Add(nan) {
		t.Fatal("an addition was refused")
	}
	checkBytes(t, a, modelOf(5).encoding(), 5)
	checkBytes(t, exact.New(), encoding(0, 0), "another empty sum")
}
