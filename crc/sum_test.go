package crc_test

import (
	"math"
	"testing"

	"bushel/crc"
)

// Promise 6.1.
func TestSum(t *testing.T) {
	for _, c := range published() {
		checkSum(t, crc.Sum(c.text), c.want, "Sum", c.text)
	}
	for _, b := range texts() {
		checkSum(t, crc.Sum(b), checksum(b), "Sum", b)
	}
}

// Promise 6.1: one byte of each value, alone and behind others; thus for four bits
// each of their values occurs in either half of a byte.
func TestSumOfOneByte(t *testing.T) {
	seen := map[uint32]bool{}
	for x := range 256 {
		one := []byte{byte(x)}
		checkSum(t, crc.Sum(one), checksum(one), "Sum", one)
		seen[crc.Sum(one)] = true
		two := []byte{byte(255 - x), byte(x)}
		checkSum(t, crc.Sum(two), checksum(two), "Sum", two)
		for _, c := range sums() {
			checkSum(t, crc.More(c, one), continued(c, one), "More", c, one)
		}
	}
	if len(seen) != 256 {
		t.Errorf("256 bytes have %d checksums", len(seen))
	}
}

// Promise 6.1: a long string; a byte counts wherever it stands.
func TestSumOfMany(t *testing.T) {
	m := mixer(1)
	b := m.text(100000)
	checkSum(t, crc.Sum(b), checksum(b), "Sum of many bytes")
	before := crc.Sum(b)
	for _, i := range []int{0, 1, 50000, 99998, 99999} {
		b[i] ^= 0x10
		if crc.Sum(b) == before {
			t.Errorf("the checksum does not depend on byte %d", i)
		}
		checkSum(t, crc.Sum(b), checksum(b), "Sum with a byte changed at", i)
		b[i] ^= 0x10
	}
}

// Promise 6.1: More of every checksum, those of no string at hand among them.
func TestMore(t *testing.T) {
	for _, c := range sums() {
		for _, b := range texts() {
			checkSum(t, crc.More(c, b), continued(c, b), "More", c, b)
		}
	}
}

// Promise 6.1: nothing changes no checksum, and after nothing comes a string's
// own.
func TestMoreOfNothing(t *testing.T) {
	for _, c := range sums() {
		checkSum(t, crc.More(c, nil), c, "More of nil", c)
		checkSum(t, crc.More(c, []byte{}), c, "More of an empty string", c)
	}
	for _, b := range texts() {
		checkSum(t, crc.More(crc.Sum(nil), b), checksum(b), "More of the checksum of nothing", b)
	}
}

// Promise 6.1: a string cut at every place, and one given byte by byte.
func TestMoreOfParts(t *testing.T) {
	for _, b := range texts() {
		want := checksum(b)
		var bytewise uint32
		for i := range len(b) + 1 {
			checkSum(t, crc.More(crc.Sum(b[:i]), b[i:]), want, "More after a cut at", i, b)
			if i < len(b) {
				bytewise = crc.More(bytewise, b[i:i+1])
			}
		}
		checkSum(t, bytewise, want, "More byte by byte", b)
	}
}

// Promise 6.1: a string cut into three parts.
func TestMoreOfThreeParts(t *testing.T) {
	m := mixer(2)
	b := m.text(40)
	for i := range len(b) + 1 {
		for j := i; j <= len(b); j++ {
			got := crc.More(crc.More(crc.Sum(b[:i]), b[i:j]), b[j:])
			checkSum(t, got, checksum(b), "More after cuts at", i, j)
		}
	}
}

// Promise 6.1: the bits are inverted at both ends, so that zeros in front count.
func TestSumOfZeros(t *testing.T) {
	seen := map[uint32]int{}
	for n := range 1000 {
		c := crc.Sum(make([]byte, n))
		if before, ok := seen[c]; ok {
			t.Errorf("%d zeros and %d zeros have the checksum %08x", before, n, c)
		}
		seen[c] = n
	}
	// The register is all zeros before them, and stays so.
	checkSum(t, crc.More(math.MaxUint32, make([]byte, 1000)), math.MaxUint32, "More of zeros")
}
