package code_test

import (
	"math"
	"testing"

	"bushel/api"
	"bushel/code"
)

// decoder is a kind of encoding as its Get function has it.
type decoder[V any] struct {
	name string
	get  func([]byte) (V, int, api.Errno)
	same func(a, b V) bool
}

var (
	getU = decoder[uint64]{"GetU", code.GetU, equal[uint64]}
	getI = decoder[int64]{"GetI", code.GetI, equal[int64]}
	getF = decoder[float64]{"GetF", code.GetF, identical}
	getT = decoder[string]{"GetT", code.GetT, equal[string]}
)

// check fails if the encoding at the beginning of b is not one of x, of so many
// bytes.
func (d decoder[V]) check(t *testing.T, b []byte, x V, length int) {
	t.Helper()
	got, n, errno := d.get(b)
	if !d.same(got, x) || n != length || errno != api.OK {
		t.Errorf("%s(%d) = %#v, %d, %d; want %#v, %d, 0", d.name, b, got, n, errno, x, length)
	}
}

// refuses fails if b has not this error.
func (d decoder[V]) refuses(t *testing.T, b []byte, want api.Errno) {
	t.Helper()
	var none V
	got, n, errno := d.get(b)
	if !d.same(got, none) || n != 0 || errno != want {
		t.Errorf("%s(%d) = %#v, %d, %d; want %#v, 0, %d", d.name, b, got, n, errno, none, want)
	}
}

// checkAll holds promise 7.2 for what has encodings: each is read, whatever
// follows it, and each proper prefix of it is too short.
func checkAll[V any](t *testing.T, d decoder[V], define func(V) []byte, l []V) {
	t.Helper()
	for _, x := range l {
		b := define(x)
		d.check(t, b, x, len(b))
		for _, tail := range [][]byte{{0}, {1}, {2}, {255}, {0, 0}, {0, 1}, {255, 255, 255, 255, 255, 255, 255, 255, 255}, b} {
			d.check(t, append(b[:len(b):len(b)], tail...), x, len(b))
		}
		for i := range b {
			d.refuses(t, b[:i], api.ErrShort)
			// What stands behind the end in the memory does not count.
			d.refuses(t, b[:i:i], api.ErrShort)
		}
	}
	d.refuses(t, nil, api.ErrShort)
	d.refuses(t, []byte{}, api.ErrShort)
}

// Promise 7.2.
func TestGetU(t *testing.T) {
	checkAll(t, getU, defineU, unsigned())
	getU.check(t, []byte{0}, 0, 1)
	getU.check(t, []byte{2, 1, 44, 7}, 300, 3)
	getU.check(t, []byte{8, 255, 255, 255, 255, 255, 255, 255, 255}, math.MaxUint64, 9)
}

// Promise 7.2.
func TestGetI(t *testing.T) {
	checkAll(t, getI, defineI, signed())
	getI.check(t, []byte{9}, 0, 1)
	getI.check(t, []byte{8}, -1, 1)
	getI.check(t, []byte{6, 254, 212, 7}, -300, 3)
	getI.check(t, []byte{17, 127, 255, 255, 255, 255, 255, 255, 255}, math.MaxInt64, 9)
	getI.check(t, []byte{0, 128, 0, 0, 0, 0, 0, 0, 0}, math.MinInt64, 9)
}

// Promise 7.2: 0 is told from -0, and NaN is one.
func TestGetF(t *testing.T) {
	checkAll(t, getF, defineF, floats())
	getF.check(t, []byte{128, 0, 0, 0, 0, 0, 0, 0}, 0, 8)
	getF.check(t, []byte{127, 255, 255, 255, 255, 255, 255, 255, 7}, minus0, 8)
	getF.check(t, []byte{255, 240, 0, 0, 0, 0, 0, 0}, infinity, 8)
	getF.check(t, []byte{0, 15, 255, 255, 255, 255, 255, 255}, -infinity, 8)
	getF.check(t, []byte{255, 255, 255, 255, 255, 255, 255, 255}, nan, 8)
}

// Promise 7.2.
func TestGetT(t *testing.T) {
	checkAll(t, getT, defineT, texts()[:200])
	checkAll(t, getT, defineT, []string{"bushel", "\x00bushel\x00", "bushel\x00\x00s", "\xff\xff", "b\u00e4u\u20ac"})
	getT.check(t, []byte{0, 0}, "", 2)
	getT.check(t, []byte{0, 0, 0}, "", 2)
	getT.check(t, []byte{97, 0, 1, 98, 0, 0, 1}, "a\x00b", 6)
	for _, s := range texts() {
		b := defineT(s)
		getT.check(t, b, s, len(b))
		getT.check(t, append(b, 2), s, len(b))
		getT.refuses(t, b[:len(b)-1], api.ErrShort)
		getT.refuses(t, b[:len(b)-2], api.ErrShort)
	}
}

// Promise 7.2: first bytes that are too great, and numbers that fewer bytes would
// hold, from the place on where that is to be seen.
func TestGetUForm(t *testing.T) {
	for x := 9; x < 256; x++ {
		getU.refuses(t, []byte{byte(x)}, api.ErrForm)
		getU.refuses(t, []byte{byte(x), 1, 2, 3, 4, 5, 6, 7, 8, 9}, api.ErrForm)
	}
	for size := 1; size <= 8; size++ {
		b := make([]byte, 12)
		b[0] = byte(size)
		for i := 2; i < len(b); i++ {
			getU.refuses(t, b[:i], api.ErrForm)
			b[i] = 255
		}
		b[1] = 1
		getU.refuses(t, b[:size], api.ErrShort)
	}
}

// Promise 7.2: first bytes that are too great, numbers that fewer bytes would
// hold, and numbers beyond the ends, from the place on where that is to be seen.
func TestGetIForm(t *testing.T) {
	for x := 18; x < 256; x++ {
		getI.refuses(t, []byte{byte(x)}, api.ErrForm)
		getI.refuses(t, []byte{byte(x), 1, 2, 3, 4, 5, 6, 7, 8, 9}, api.ErrForm)
	}
	type start struct{ head, next byte }
	var l []start
	for size := 1; size <= 8; size++ {
		l = append(l, start{byte(9 + size), 0}, start{byte(8 - size), 255})
	}
	for x := range 128 {
		l = append(l, start{17, byte(128 + x)}, start{0, byte(x)})
	}
	for _, s := range l {
		for _, rest := range []byte{0, 1, 127, 128, 254, 255} {
			b := []byte{s.head, s.next}
			for len(b) < 12 {
				getI.refuses(t, b, api.ErrForm)
				b = append(b, rest)
			}
		}
	}
	getI.refuses(t, []byte{17, 127}, api.ErrShort)
	getI.refuses(t, []byte{0, 128}, api.ErrShort)
	getI.refuses(t, []byte{17, 1}, api.ErrShort)
	getI.refuses(t, []byte{0, 254}, api.ErrShort)
}

// Promise 7.2: eight bytes that are no float's Key, and fewer bytes that no
// float's Key begins with.
func TestGetFForm(t *testing.T) {
	for _, b := range [][]byte{
		{0, 0, 0, 0, 0, 0, 0, 0},
		{0, 0, 0, 0, 0, 0, 0, 0, 1},
		{0, 7, 255, 255, 255, 255, 255, 255},
		{0, 14, 255, 255, 255, 255, 255, 255},
		{0, 15, 255, 255, 255, 255, 255, 254},
		{0, 15, 255, 255, 255, 255, 255, 254, 255},
		{255, 240, 0, 0, 0, 0, 0, 1},
		{255, 240, 0, 0, 0, 0, 1, 0},
		{255, 248, 0, 0, 0, 0, 0, 0},
		{255, 255, 255, 255, 255, 255, 255, 0},
		{255, 255, 255, 255, 255, 255, 255, 254},
		{255, 255, 255, 255, 255, 255, 254, 255},
		{0, 0},
		{0, 14},
		{0, 15, 254},
		{0, 15, 255, 255, 255, 255, 254},
		{255, 240, 1},
		{255, 240, 0, 0, 0, 0, 1},
		{255, 241},
		{255, 248},
		{255, 254},
		{255, 255, 0},
		{255, 255, 254},
		{255, 255, 255, 255, 255, 255, 254},
	} {
		getF.refuses(t, b, api.ErrForm)
	}
	for _, b := range [][]byte{
		{0}, {0, 15}, {0, 15, 255}, {0, 15, 255, 255, 255, 255, 255}, {0, 16}, {0, 255}, {1}, {127}, {128},
		{254}, {255}, {255, 0}, {255, 239}, {255, 240}, {255, 240, 0}, {255, 240, 0, 0, 0, 0, 0},
		{255, 255}, {255, 255, 255}, {255, 255, 255, 255, 255, 255, 255},
	} {
		getF.refuses(t, b, api.ErrShort)
	}
}

// Promise 7.2: a byte 0 that is followed by a byte greater than 1, behind anything
// and before anything; and what may still become an encoding.
func TestGetTForm(t *testing.T) {
	for x := 2; x < 256; x++ {
		for _, before := range []string{"", "a", "\x00\x01", "\xff", "a\x00\x01b", "\x01"} {
			b := append([]byte(before), 0)
			getT.refuses(t, b, api.ErrShort)
			b = append(b, byte(x))
			getT.refuses(t, b, api.ErrForm)
			getT.refuses(t, append(b, 0, 0), api.ErrForm)
		}
	}
	for _, s := range []string{"\x00", "\x00\x01", "\x00\x01\x00", "\x00\x01\x01", "\x00\x01\x02", "\x01\x02\x03", "bushel", "a\x00", "\xff"} {
		getT.refuses(t, []byte(s), api.ErrShort)
	}
}
