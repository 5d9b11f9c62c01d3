package frame_test

import (
	"bytes"
	"math"
	"slices"
	"testing"

	"bushel/api"
	"bushel/frame"
)

// mixer makes the same words in every run.
type mixer uint64

func (m *mixer) word() uint32 {
	*m = *m*6364136223846793005 + 1442695040888963407
	return uint32(*m >> 32)
}

// below returns a number from 0 to n - 1.
func (m *mixer) below(n int) int {
	return int(m.word() % uint32(n))
}

// text returns n bytes.
func (m *mixer) text(n int) []byte {
	b := make([]byte, n)
	for i := range b {
		b[i] = byte(m.word())
	}
	return b
}

// The definitions below follow the chapters word by word.

// defineSum returns the checksum of b, bit by bit, in four bytes with the lowest
// one first.
func defineSum(b []byte) []byte {
	var register uint32 = math.MaxUint32
	for _, x := range b {
		register ^= uint32(x)
		for range 8 {
			out := register % 2
			register /= 2
			if out == 1 {
				register ^= 0x82f63b78
			}
		}
	}
	var l []byte
	for c := ^register; len(l) < 4; c /= 256 {
		l = append(l, byte(c%256))
	}
	return l
}

// sealed returns b and its checksum, whatever b is.
func sealed(b ...byte) []byte {
	return slices.Concat(b, defineSum(b))
}

// define returns the frame of a body, or what would be that of a body that is too
// long.
func define(body []byte) []byte {
	n := len(body)
	return sealed(slices.Concat([]byte{0xb5, byte(n / 65536), byte(n / 256 % 256), byte(n % 256)}, body)...)
}

// defineGet returns what Get must.
func defineGet(b []byte) ([]byte, int, api.Errno) {
	if len(b) > 0 && b[0] != 0xb5 {
		return nil, 0, api.ErrForm
	}
	head := slices.Concat(b, []byte{0, 0, 0, 0})
	length := 65536*int(head[1]) + 256*int(head[2]) + int(head[3])
	if length > 60000 {
		return nil, 0, api.ErrForm
	}
	if len(b) < 4+length+4 {
		return nil, 0, api.ErrShort
	}
	if !bytes.Equal(b[:4+length+4], sealed(b[:4+length]...)) {
		return nil, 0, api.ErrRot
	}
	return b[4 : 4+length], 4 + length + 4, api.OK
}

// defineAll returns what All must.
func defineAll(b []byte) ([][]byte, int, api.Errno) {
	var bodies [][]byte
	at := 0
	for at < len(b) {
		body, size, errno := defineGet(b[at:])
		if errno != api.OK {
			return bodies, at, errno
		}
		bodies = append(bodies, body)
		at += size
	}
	return bodies, at, api.OK
}

// filled returns n bytes x.
func filled(n int, x byte) []byte {
	return slices.Repeat([]byte{x}, n)
}

// short holds short bodies: no bytes, bytes that look like parts of a frame, whole
// frames, and mixed ones.
func short() [][]byte {
	m := mixer(9)
	l := [][]byte{nil, {}, {0}, {0xb5}, {255}, []byte("a"), []byte("bushel"), {0xb5, 0, 0, 0}, {0xb5, 255, 255, 255}}
	l = append(l, define(nil), define([]byte("a")), define(define(nil)))
	for _, n := range []int{1, 2, 3, 4, 5, 7, 8, 9, 15, 16, 17, 33} {
		l = append(l, filled(n, 0), filled(n, 0xb5), m.text(n))
	}
	return l
}

// bodies holds the short bodies and longer ones, with lengths on both sides of
// each change of a length byte and up to the longest body.
func bodies() [][]byte {
	m := mixer(90)
	l := short()
	for _, n := range []int{127, 128, 255, 256, 257, 511, 512, 991, 1024, 4096, 32767, 32768, 59903, 59904, 59999, 60000} {
		l = append(l, m.text(n))
	}
	return append(l, filled(256, 0), filled(60000, 0), filled(60000, 0xb5), filled(60000, 255))
}

// behind holds what may follow a frame.
func behind() [][]byte {
	return [][]byte{nil, {0}, {0xb5}, {255, 255, 255, 255, 255}, {0xb5, 0, 0, 0}, {0xb5, 255, 255, 255}, define(nil), define([]byte("b")), filled(300, 7)}
}

// brief returns b, or of a long one the beginning, for a message.
func brief(b []byte) []byte {
	return b[:min(len(b), 40)]
}

// checkFound fails if Get does not find this body in a frame of this size.
func checkFound(t *testing.T, b, want []byte) {
	t.Helper()
	body, size, errno := frame.Get(b)
	if !bytes.Equal(body, want) || size != 8+len(want) || errno != api.OK {
		t.Errorf("Get of %d bytes %x.. = %x.., %d, %d; want %x.., %d, 0", len(b), brief(b), brief(body), size, errno, brief(want), 8+len(want))
	}
}

// checkRefused fails if Get returns anything but this error.
func checkRefused(t *testing.T, b []byte, want api.Errno) {
	t.Helper()
	body, size, errno := frame.Get(b)
	if len(body) != 0 || size != 0 || errno != want {
		t.Errorf("Get of %d bytes %x.. = %x.., %d, %d; want no bytes, 0, %d", len(b), brief(b), brief(body), size, errno, want)
	}
}

// checkAll fails if All does not return these bodies, this size and this error.
func checkAll(t *testing.T, b []byte, bodies [][]byte, size int, errno api.Errno) {
	t.Helper()
	gotBodies, gotSize, gotErrno := frame.All(b)
	if gotSize != size || gotErrno != errno {
		t.Errorf("All of %d bytes %x.. = .., %d, %d; want %d, %d", len(b), brief(b), gotSize, gotErrno, size, errno)
	}
	if !slices.EqualFunc(gotBodies, bodies, bytes.Equal) {
		t.Errorf("All of %d bytes %x.. has other bodies: %d of them; want %d", len(b), brief(b), len(gotBodies), len(bodies))
	}
}

// answer is a body and its frame.
type answer struct {
	body string
	want []byte
}

// written holds frames written out, with checksums that were worked out elsewhere.
func written() []answer {
	return []answer{
		{"", []byte{181, 0, 0, 0, 5, 188, 225, 130}},
		{"\x00", []byte{181, 0, 0, 1, 0, 134, 62, 172, 116}},
		{"a", []byte{181, 0, 0, 1, 97, 231, 46, 1, 231}},
		{"bushel", []byte{181, 0, 0, 6, 98, 117, 115, 104, 101, 108, 21, 49, 90, 164}},
		{"\xb5\x00\x00\x00", []byte{181, 0, 0, 4, 181, 0, 0, 0, 251, 254, 189, 115}},
		{string(filled(256, 0)), slices.Concat([]byte{181, 0, 1, 0}, filled(256, 0), []byte{153, 240, 189, 219})},
		{string(filled(60000, 0)), slices.Concat([]byte{181, 0, 234, 96}, filled(60000, 0), []byte{118, 187, 134, 195})},
	}
}

// The definition yields the frames that are written out.
func TestDefinition(t *testing.T) {
	for _, c := range written() {
		if got := define([]byte(c.body)); !bytes.Equal(got, c.want) {
			t.Errorf("the definition's frame of %x.. is %x..; want %x..", brief([]byte(c.body)), brief(got), brief(c.want))
		}
	}
}
