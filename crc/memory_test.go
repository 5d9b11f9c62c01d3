package crc_test

import (
	"bytes"
	"testing"

	"bushel/crc"
)

// R4 and R5 for promise 6.1: bytes, and what stands behind them in memory, stay as
// they are, and the same ones have the same checksum.
func TestArgumentsStay(t *testing.T) {
	for _, text := range texts() {
		whole := followed(text, []byte{1, 2, 3, 4, 5})
		before := bytes.Clone(whole)
		b := whole[:len(text)]
		checkSum(t, crc.Sum(b), checksum(text), "Sum", b)
		checkSum(t, crc.More(77, b), continued(77, text), "More", 77, b)
		if !bytes.Equal(whole, before) {
			t.Errorf("the bytes of %x were changed", text)
		}
		checkSum(t, crc.Sum(b), checksum(text), "Sum for the second time", b)
		for i := range b {
			b[i]++
		}
		checkSum(t, crc.Sum(b), checksum(b), "Sum of other bytes in the same place", b)
	}
}

// R4 for promise 6.3: what Patch returns belongs to the caller, who may write into
// it or append to it.
func TestPatchesAreNew(t *testing.T) {
	for _, c := range sums() {
		want := crc.Patch(c, 0x12345678)
		first, second := crc.Patch(c, 0x12345678), crc.Patch(c, 0x12345678)
		spoil(first)
		if !bytes.Equal(second, want) {
			t.Errorf("two results of Patch(%08x, ..) share memory", c)
		}
		if again := crc.Patch(c, 0x12345678); !bytes.Equal(again, want) {
			t.Errorf("Patch(%08x, ..) = %x after its result was changed; want %x", c, again, want)
		}
		checkSum(t, continued(c, want), 0x12345678, "the checksum after", c, want)
	}
}

// spoil writes over b, and over what stands behind it in its memory.
func spoil(b []byte) {
	b = b[:cap(b)]
	for i := range b {
		b[i] ^= 0x5a
	}
}
