package crc_test

import (
	"math"
	"testing"
)

// define returns the register after the bytes, bit by bit in the chapter's words.
func define(register uint32, b []byte) uint32 {
	for _, x := range b {
		register ^= uint32(x)
		for range 8 {
			out := register & 1
			register >>= 1
			if out == 1 {
				register ^= 0x82f63b78
			}
		}
	}
	return register
}

// checksum is the chapter's checksum of b.
func checksum(b []byte) uint32 {
	return ^define(math.MaxUint32, b)
}

// continued is the chapter's checksum of a string with the checksum c followed by
// b: the register of that string is c with all bits inverted.
func continued(c uint32, b []byte) uint32 {
	return ^define(^c, b)
}

// mixer makes the same words in every run.
type mixer uint64

func (m *mixer) word() uint32 {
	*m = *m*6364136223846793005 + 1442695040888963407
	return uint32(*m >> 32)
}

// text returns n bytes.
func (m *mixer) text(n int) []byte {
	b := make([]byte, n)
	for i := range b {
		b[i] = byte(m.word())
	}
	return b
}

// texts holds byte strings of many lengths: of equal bytes, of bytes that rise,
// and of mixed ones.
func texts() [][]byte {
	m := mixer(6)
	l := [][]byte{nil, {}}
	for _, n := range []int{1, 2, 3, 4, 5, 7, 8, 9, 15, 16, 17, 31, 32, 33, 63, 64, 65, 255, 256, 257} {
		noughts, ones, rising := make([]byte, n), make([]byte, n), make([]byte, n)
		for i := range n {
			ones[i] = math.MaxUint8
			rising[i] = byte(i)
		}
		l = append(l, noughts, ones, rising, m.text(n), m.text(n))
	}
	return l
}

// sums holds checksums: the ends, single bits, all bits but one, and mixed ones.
func sums() []uint32 {
	m := mixer(60)
	l := []uint32{0, math.MaxUint32, 0xe3069283, 0x82f63b78, 0x0000ffff, 0xffff0000}
	for i := range 32 {
		l = append(l, 1<<i, ^uint32(1<<i))
	}
	for range 16 {
		l = append(l, m.word())
	}
	return l
}

// followed returns a new string: a, and then b.
func followed(a, b []byte) []byte {
	return append(append([]byte{}, a...), b...)
}

func checkSum(t *testing.T, got, want uint32, name string, arguments ...any) {
	t.Helper()
	if got != want {
		t.Errorf("%s%x = %08x; want %08x", name, arguments, got, want)
	}
}

// The definition yields what others publish for CRC-32C.
func TestDefinition(t *testing.T) {
	for _, c := range published() {
		checkSum(t, checksum(c.text), c.want, "checksum", c.text)
	}
}

// answer is a byte string and its checksum.
type answer struct {
	text []byte
	want uint32
}

// published holds the chapter's example and those of RFC 3720, among others.
func published() []answer {
	noughts, ones, rising, falling := make([]byte, 32), make([]byte, 32), make([]byte, 32), make([]byte, 32)
	for i := range 32 {
		ones[i] = math.MaxUint8
		rising[i] = byte(i)
		falling[31-i] = byte(i)
	}
	return []answer{
		{nil, 0},
		{[]byte{}, 0},
		{[]byte("123456789"), 0xe3069283},
		{[]byte("a"), 0xc1d04330},
		{[]byte("abc"), 0x364b3fb7},
		{[]byte("The quick brown fox jumps over the lazy dog"), 0x22620404},
		{noughts, 0x8a9136aa},
		{ones, 0x62a8ab43},
		{rising, 0x46dd794e},
		{falling, 0x113fdb5c},
	}
}
