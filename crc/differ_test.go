package crc_test

import (
	"bytes"
	"slices"
	"testing"

	"bushel/crc"
)

// Promise 6.4: one changed bit, at every place.
func TestOneBitDiffers(t *testing.T) {
	for _, b := range texts() {
		before := crc.Sum(b)
		for i := range b {
			for bit := range 8 {
				other := bytes.Clone(b)
				other[i] ^= 1 << bit
				if crc.Sum(other) == before {
					t.Errorf("bit %d of byte %d of %x does not count", bit, i, b)
				}
			}
		}
	}
}

// changes returns what may be xored onto width bytes: every bit, its own
// complement, only the ends, and mixed ones; none of them is all 0.
func changes(width int) [][]byte {
	m := mixer(width)
	l := [][]byte{slices.Repeat([]byte{255}, width)}
	ends := make([]byte, width)
	ends[0], ends[width-1] = 1, 128
	l = append(l, ends)
	for i := range 8 * width {
		bit, rest := make([]byte, width), slices.Repeat([]byte{255}, width)
		bit[i/8] ^= 1 << (i % 8)
		rest[i/8] ^= 1 << (i % 8)
		l = append(l, bit, rest)
	}
	for range 32 {
		l = append(l, append(m.text(width-1), byte(m.word())|1))
	}
	return l
}

// checkDiffers fails if b has the same checksum with this change at a place.
func checkDiffers(t *testing.T, b []byte, at int, change []byte) {
	t.Helper()
	other := bytes.Clone(b)
	for i, x := range change {
		other[at+i] ^= x
	}
	if crc.Sum(other) == crc.Sum(b) {
		t.Errorf("%x and %x have the checksum %08x", b, other, crc.Sum(b))
	}
}

// Promise 6.4: one to four consecutive bytes, at the first place, the last one and
// all between.
func TestConsecutiveBytesDiffer(t *testing.T) {
	m := mixer(7)
	for _, n := range []int{1, 2, 3, 4, 5, 8, 9, 40} {
		b := m.text(n)
		for width := 1; width <= min(n, 4); width++ {
			for at := range n - width + 1 {
				for _, change := range changes(width) {
					checkDiffers(t, b, at, change)
				}
			}
		}
	}
}

// Promise 6.4: one byte is changed to every other one, and two to many others.
func TestBytesDiffer(t *testing.T) {
	m := mixer(8)
	b := m.text(12)
	for at := range b {
		for x := range 255 {
			checkDiffers(t, b, at, []byte{byte(x + 1)})
		}
	}
	for _, at := range []int{0, 5, 10} {
		for x := 1; x < 1<<16; x += 7 {
			checkDiffers(t, b, at, []byte{byte(x), byte(x >> 8)})
		}
	}
}

// Promise 6.4, for all changes at once: a change changes the checksum by the xor
// of what its bits do alone, and no bits of four bytes cancel each other.
func TestNoChangeOfFourBytesCancels(t *testing.T) {
	m := mixer(9)
	for _, n := range []int{4, 5, 20, 300} {
		b := m.text(n)
		for _, at := range []int{0, (n - 4) / 2, n - 4} {
			alone := effects(b, at)
			for range 100 {
				word := m.word()
				other := bytes.Clone(b)
				var together uint32
				for i := range 32 {
					if word>>i&1 == 1 {
						other[at+i/8] ^= 1 << (i % 8)
						together ^= alone[i]
					}
				}
				checkSum(t, crc.Sum(other), crc.Sum(b)^together, "Sum", other)
			}
			if r := rank(alone); r != 32 {
				t.Errorf("at byte %d of %d, the 32 bits of four bytes have only %d independent effects", at, n, r)
			}
		}
	}
}

// effects returns by what the checksum of b changes with each single bit of the
// four bytes at a place.
func effects(b []byte, at int) []uint32 {
	var l []uint32
	for i := range 32 {
		other := bytes.Clone(b)
		other[at+i/8] ^= 1 << (i % 8)
		l = append(l, crc.Sum(other)^crc.Sum(b))
	}
	return l
}

// rank returns how many elements are no xor of others, by elimination.
func rank(l []uint32) int {
	l = slices.Clone(l)
	found := 0
	for bit := range 32 {
		at := slices.IndexFunc(l, func(x uint32) bool { return x>>bit&1 == 1 })
		if at < 0 {
			continue
		}
		found++
		lead := l[at]
		for i, x := range l {
			if x>>bit&1 == 1 {
				l[i] ^= lead
			}
		}
	}
	return found
}
