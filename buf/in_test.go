package buf_test

import (
	"math"
	"strings"
	"testing"

	"bushel/api"
	"bushel/buf"
)

// Behind what a test is about stand bytes before and behind it, so that the
// position counts: before is read first, as 300, and behind is not.
var (
	before = []byte{2, 1, 44}
	behind = []byte{3, 1}
)

// at returns a reader of before and b, with its position behind before.
func at(t *testing.T, b ...byte) *buf.In {
	t.Helper()
	i := buf.NewIn(append(before[:3:3], b...))
	checkRead(t, i, readU(300), "300", len(b))
	return i
}

// reads fails if the call does not read this value from b, alone and between
// others.
func reads(t *testing.T, b []byte, c call, want string) {
	t.Helper()
	checkRead(t, buf.NewIn(b), c, want, 0)
	checkRead(t, at(t, append(b[:len(b):len(b)], behind...)...), c, want, len(behind))
}

// refuses fails if the call does not record this error for b, with the position
// before it.
func refuses(t *testing.T, b []byte, c call, errno api.Errno) {
	t.Helper()
	checkRefused(t, buf.NewIn(b), c, 0, errno)
	checkRefused(t, at(t, b...), c, len(before), errno)
}

// Promise 8.2: a new reader is at position 0, of no bytes and of nil too.
func TestNewIn(t *testing.T) {
	checkLeft(t, buf.NewIn(nil), 0, "a reader of nil")
	checkLeft(t, buf.NewIn([]byte{}), 0, "a reader of no bytes")
	checkLeft(t, buf.NewIn([]byte{255, 255, 255}), 3, "a reader of three bytes")
	for _, c := range []call{readU(0), readU(math.MaxUint64), readI(), readF(), readT(-1), readT(9), readB(-1), readB(9)} {
		checkRefused(t, buf.NewIn(nil), c, 0, api.ErrShort)
		checkRefused(t, buf.NewIn([]byte{}), c, 0, api.ErrShort)
		checkRefused(t, at(t), c, 3, api.ErrShort)
	}
}

// Promise 8.2: each value, and behind it others.
func TestReadAny(t *testing.T) {
	for _, v := range values() {
		reads(t, v.encoding, v.back, v.text)
		i := at(t, append(v.encoding, v.encoding...)...)
		checkRead(t, i, v.back, v.text, len(v.encoding))
		checkRead(t, i, v.back, v.text, 0)
	}
}

// Promise 8.2: numbers below most, equal to it, and above it; 0 as most.
func TestU(t *testing.T) {
	reads(t, []byte{1, 5}, readU(5), "5")
	reads(t, []byte{1, 5}, readU(6), "5")
	reads(t, []byte{1, 5}, readU(math.MaxUint64), "5")
	refuses(t, []byte{1, 5}, readU(4), api.ErrRange)
	refuses(t, []byte{1, 5}, readU(0), api.ErrRange)
	reads(t, []byte{0}, readU(0), "0")
	refuses(t, []byte{1, 1}, readU(0), api.ErrRange)
	refuses(t, []byte{2, 1, 0}, readU(255), api.ErrRange)
	for _, x := range []uint64{1, 127, 128, 255, 256, 65536, 1 << 32, math.MaxInt64, 1 << 63, 1<<63 + 1, math.MaxUint64} {
		reads(t, defineU(x), readU(x), textU(x))
		reads(t, defineU(x-1), readU(x), textU(x-1))
		refuses(t, defineU(x), readU(x-1), api.ErrRange)
		refuses(t, defineU(math.MaxUint64), readU(x-1), api.ErrRange)
	}
}

// Promise 8.2: the errors of GetU come before that of most.
func TestUForm(t *testing.T) {
	for _, most := range []uint64{0, 43, 299, math.MaxUint64} {
		refuses(t, []byte{1}, readU(most), api.ErrShort)
		refuses(t, []byte{2, 1}, readU(most), api.ErrShort)
		refuses(t, []byte{8, 255, 255, 255, 255, 255, 255, 255}, readU(most), api.ErrShort)
		refuses(t, []byte{2, 0}, readU(most), api.ErrForm)
		refuses(t, []byte{2, 0, 44}, readU(most), api.ErrForm)
		refuses(t, []byte{1, 0}, readU(most), api.ErrForm)
		refuses(t, []byte{9, 1, 2, 3, 4, 5, 6, 7, 8, 9}, readU(most), api.ErrForm)
		refuses(t, []byte{255}, readU(most), api.ErrForm)
	}
}

// Promise 8.2: values written out, and each error of GetI.
func TestI(t *testing.T) {
	reads(t, []byte{9}, readI(), "0")
	reads(t, []byte{8}, readI(), "-1")
	reads(t, []byte{6, 254, 212}, readI(), "-300")
	reads(t, []byte{17, 127, 255, 255, 255, 255, 255, 255, 255}, readI(), "9223372036854775807")
	reads(t, []byte{0, 128, 0, 0, 0, 0, 0, 0, 0}, readI(), "-9223372036854775808")
	for _, b := range [][]byte{{10}, {7}, {11, 1}, {6, 254}, {0}, {17, 127, 255, 255, 255, 255, 255, 255}} {
		refuses(t, b, readI(), api.ErrShort)
	}
	for _, b := range [][]byte{{18}, {255, 1}, {10, 0}, {7, 255}, {11, 0, 44}, {6, 255, 212}, {17, 128, 0, 0, 0, 0, 0, 0, 0}, {0, 127}} {
		refuses(t, b, readI(), api.ErrForm)
	}
}

// Promise 8.2: values written out, and each error of GetF.
func TestF(t *testing.T) {
	reads(t, []byte{128, 0, 0, 0, 0, 0, 0, 0}, readF(), "0x0p+00")
	reads(t, []byte{127, 255, 255, 255, 255, 255, 255, 255}, readF(), "-0x0p+00")
	reads(t, []byte{191, 248, 0, 0, 0, 0, 0, 0}, readF(), "0x1.8p+00")
	reads(t, []byte{255, 240, 0, 0, 0, 0, 0, 0}, readF(), "+Inf")
	reads(t, []byte{0, 15, 255, 255, 255, 255, 255, 255}, readF(), "-Inf")
	reads(t, []byte{255, 255, 255, 255, 255, 255, 255, 255}, readF(), "NaN")
	for _, b := range [][]byte{{0}, {128}, {128, 0, 0, 0, 0, 0, 0}, {255, 255, 255, 255, 255, 255, 255}} {
		refuses(t, b, readF(), api.ErrShort)
	}
	for _, b := range [][]byte{{0, 0}, {255, 241}, {255, 240, 0, 0, 0, 0, 0, 1}, {0, 15, 255, 255, 255, 255, 255, 254}, {255, 255, 255, 255, 255, 255, 255, 254}} {
		refuses(t, b, readF(), api.ErrForm)
	}
}

// Promise 8.2: as many bytes as most, one less and one more; most 0 and negative.
// Only the bytes of the string count, not those of its encoding, and not its
// characters.
func TestT(t *testing.T) {
	for _, s := range []string{"a", "bushel", "\x00", "\x00\x00", "a\x00b", "b\u00e4u\u20ac", "\xff", strings.Repeat("x", 256), strings.Repeat("\x00", 1000)} {
		b := defineT(s)
		for _, most := range []int{len(s), len(s) + 1, math.MaxInt} {
			reads(t, b, readT(most), textT(s))
		}
		for _, most := range []int{len(s) - 1, 0, -1, -len(s), math.MinInt} {
			refuses(t, b, readT(most), api.ErrLong)
		}
	}
	for _, most := range []int{0, -1, math.MinInt, 1, math.MaxInt} {
		reads(t, []byte{0, 0}, readT(most), textT(""))
	}
}

// Promise 8.2: the errors of GetT come before that of most.
func TestTForm(t *testing.T) {
	for _, most := range []int{math.MinInt, -1, 0, 1, 5, math.MaxInt} {
		for _, s := range []string{"a", "\x00", "bushel", "a\x00", "a\x00\x01b", "\x00\x01"} {
			refuses(t, []byte(s), readT(most), api.ErrShort)
		}
		for _, s := range []string{"\x00\x02", "a\x00\xff\x00\x00", "bushel\x00b"} {
			refuses(t, []byte(s), readT(most), api.ErrForm)
		}
	}
}

// Promise 8.2: as many bytes as most, one less and one more; most 0 and negative.
func TestB(t *testing.T) {
	for _, s := range []string{"a", "\x00", "\x00\x00", "a\x00b", "bushel", strings.Repeat("x", 255), strings.Repeat("\x00", 256), strings.Repeat("x", 65536)} {
		b := defineB(s)
		for _, most := range []int{len(s), len(s) + 1, math.MaxInt} {
			reads(t, b, readB(most), textT(s))
		}
		for _, most := range []int{len(s) - 1, 0, -1, -len(s), math.MinInt} {
			refuses(t, b, readB(most), api.ErrLong)
		}
	}
	for _, most := range []int{0, -1, math.MinInt, 1, math.MaxInt} {
		reads(t, []byte{0}, readB(most), textT(""))
	}
}

// Promise 8.2: B's errors in the order of the chapter: that of the length, then
// ErrLong, then ErrShort.
func TestBErrors(t *testing.T) {
	for _, most := range []int{math.MinInt, -1, 0, 1, 5, 300, math.MaxInt} {
		refuses(t, []byte{1}, readB(most), api.ErrShort)
		refuses(t, []byte{2, 1}, readB(most), api.ErrShort)
		refuses(t, []byte{2, 0}, readB(most), api.ErrForm)
		refuses(t, []byte{2, 0, 3, 97, 98, 99}, readB(most), api.ErrForm)
		refuses(t, []byte{1, 0}, readB(most), api.ErrForm)
		refuses(t, []byte{9, 97}, readB(most), api.ErrForm)
	}
	for _, missing := range []int{1, 2, 3} {
		b := []byte{1, 3, 97, 98, 99}[:5-missing]
		for _, most := range []int{2, 1, 0, -1} {
			refuses(t, b, readB(most), api.ErrLong)
		}
		for _, most := range []int{3, 4, 300, math.MaxInt} {
			refuses(t, b, readB(most), api.ErrShort)
		}
	}
}

// Promise 8.2: lengths that no memory has, up to those that are no int.
func TestBGreatLengths(t *testing.T) {
	for _, size := range []uint64{1 << 31, 1 << 32, 1<<32 + 1, 1<<63 - 9, 1<<63 - 1} {
		b := append(defineU(size), 97, 98)
		refuses(t, b, readB(math.MaxInt), api.ErrShort)
		refuses(t, b, readB(int(size)), api.ErrShort)
		refuses(t, b, readB(int(size)-1), api.ErrLong)
		refuses(t, b, readB(-1), api.ErrLong)
	}
	for _, size := range []uint64{1 << 63, 1<<63 + 1, 1<<64 - 10, 1<<64 - 1} {
		b := append(defineU(size), 97, 98)
		for _, most := range []int{math.MaxInt, 2, 0, -1, -10, math.MinInt} {
			refuses(t, b, readB(most), api.ErrLong)
		}
	}
}

// Promise 8.2: the position of a fault is the one before the value, behind any
// other values, for each kind of fault.
func TestFaultPosition(t *testing.T) {
	for _, v := range values() {
		n := len(v.encoding)
		for _, c := range []struct {
			b     []byte
			read  call
			errno api.Errno
		}{
			{[]byte{1, 5}, readU(4), api.ErrRange},
			{[]byte{2, 1}, readU(9), api.ErrShort},
			{[]byte{6, 254}, readI(), api.ErrShort},
			{[]byte{128, 0}, readF(), api.ErrShort},
			{[]byte{97, 98, 0}, readT(9), api.ErrShort},
			{[]byte{97, 98, 0, 0}, readT(1), api.ErrLong},
			{[]byte{97, 0, 7}, readT(9), api.ErrForm},
			{[]byte{1, 3, 97}, readB(9), api.ErrShort},
			{[]byte{1, 3, 97}, readB(2), api.ErrLong},
			{[]byte{1, 0}, readB(2), api.ErrForm},
		} {
			i := buf.NewIn(append(v.encoding[:n:n], c.b...))
			checkRead(t, i, v.back, v.text, len(c.b))
			checkRefused(t, i, c.read, n, c.errno)
		}
	}
}
