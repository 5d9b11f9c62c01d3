package crc_test

import (
	"bytes"
	"math"
	"testing"

	"bushel/crc"
)

// low returns the bytes of x, the lowest one first.
func low(x uint32) []byte {
	return []byte{byte(x), byte(x >> 8), byte(x >> 16), byte(x >> 24)}
}

// patch returns Patch(c, want), and fails unless that is four bytes.
func patch(t *testing.T, c, want uint32) []byte {
	t.Helper()
	b := crc.Patch(c, want)
	if len(b) != 4 {
		t.Fatalf("Patch(%08x, %08x) = %x: not four bytes", c, want, b)
	}
	return b
}

// Promise 6.3: the four bytes yield want, from and to every checksum, 0, all bits
// and the same one among them.
func TestPatch(t *testing.T) {
	for _, c := range sums() {
		for _, want := range sums() {
			b := patch(t, c, want)
			checkSum(t, continued(c, b), want, "the checksum after", c, b)
			checkSum(t, crc.More(c, b), want, "More", c, b)
		}
	}
}

// Promise 6.3: behind strings, the empty one among them.
func TestPatchOfTexts(t *testing.T) {
	for _, text := range texts() {
		for _, want := range sums() {
			whole := followed(text, patch(t, checksum(text), want))
			checkSum(t, checksum(whole), want, "the checksum of", whole)
			checkSum(t, crc.Sum(whole), want, "Sum", whole)
		}
	}
}

// Promise 6.3: the bytes that need no search. All bits inverted clear the register;
// a checksum behind its string, the lowest byte first, always makes the same one.
func TestPatchKnown(t *testing.T) {
	for _, c := range sums() {
		for _, k := range []struct {
			want uint32
			b    []byte
		}{
			{math.MaxUint32, low(^c)},
			{0x48674bc7, low(c)},
		} {
			if got := patch(t, c, k.want); !bytes.Equal(got, k.b) {
				t.Errorf("Patch(%08x, %08x) = %x; want %x", c, k.want, got, k.b)
			}
		}
	}
}

// Promise 6.3: they are the only four bytes: from a checksum to that of four given
// bytes there are these ones.
func TestPatchFindsBytes(t *testing.T) {
	m := mixer(5)
	for _, c := range sums() {
		for _, b := range [][]byte{{0, 0, 0, 0}, {255, 255, 255, 255}, {1, 0, 0, 0}, {0, 0, 0, 1}, {0, 0, 0, 128}, {128, 0, 0, 0}, m.text(4), m.text(4)} {
			if got := patch(t, c, continued(c, b)); !bytes.Equal(got, b) {
				t.Errorf("Patch(%08x, %08x) = %x; want %x", c, continued(c, b), got, b)
			}
		}
	}
}
