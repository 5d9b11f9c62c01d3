package code_test

import (
	"math"
	"strings"
	"testing"

	"bushel/code"
)

// Promise 7.1: zero, the ends, and both sides of each change of the number of
// bytes, written out.
func TestU(t *testing.T) {
	for _, c := range []struct {
		x    uint64
		want []byte
	}{
		{0, []byte{0}},
		{1, []byte{1, 1}},
		{5, []byte{1, 5}},
		{127, []byte{1, 127}},
		{128, []byte{1, 128}},
		{255, []byte{1, 255}},
		{256, []byte{2, 1, 0}},
		{300, []byte{2, 1, 44}},
		{1<<16 - 1, []byte{2, 255, 255}},
		{1 << 16, []byte{3, 1, 0, 0}},
		{1<<24 - 1, []byte{3, 255, 255, 255}},
		{1 << 24, []byte{4, 1, 0, 0, 0}},
		{1<<32 - 1, []byte{4, 255, 255, 255, 255}},
		{1 << 32, []byte{5, 1, 0, 0, 0, 0}},
		{1<<40 - 1, []byte{5, 255, 255, 255, 255, 255}},
		{1 << 40, []byte{6, 1, 0, 0, 0, 0, 0}},
		{1<<48 - 1, []byte{6, 255, 255, 255, 255, 255, 255}},
		{1 << 48, []byte{7, 1, 0, 0, 0, 0, 0, 0}},
		{1<<56 - 1, []byte{7, 255, 255, 255, 255, 255, 255, 255}},
		{1 << 56, []byte{8, 1, 0, 0, 0, 0, 0, 0, 0}},
		{0x0123456789abcdef, []byte{8, 0x01, 0x23, 0x45, 0x67, 0x89, 0xab, 0xcd, 0xef}},
		{math.MaxInt64, []byte{8, 127, 255, 255, 255, 255, 255, 255, 255}},
		{1 << 63, []byte{8, 128, 0, 0, 0, 0, 0, 0, 0}},
		{math.MaxUint64, []byte{8, 255, 255, 255, 255, 255, 255, 255, 255}},
	} {
		checkBytes(t, code.U(c.x), c.want, "U", c.x)
		checkBytes(t, defineU(c.x), c.want, "the definition of U", c.x)
	}
	for _, x := range unsigned() {
		checkBytes(t, code.U(x), defineU(x), "U", x)
	}
}

// Promise 7.1: both sides of 0 and of each change of the number of bytes, and the
// ends, written out.
func TestI(t *testing.T) {
	for _, c := range []struct {
		x    int64
		want []byte
	}{
		{0, []byte{9}},
		{1, []byte{10, 1}},
		{255, []byte{10, 255}},
		{256, []byte{11, 1, 0}},
		{300, []byte{11, 1, 44}},
		{1<<16 - 1, []byte{11, 255, 255}},
		{1 << 16, []byte{12, 1, 0, 0}},
		{1<<24 - 1, []byte{12, 255, 255, 255}},
		{1 << 24, []byte{13, 1, 0, 0, 0}},
		{1<<32 - 1, []byte{13, 255, 255, 255, 255}},
		{1 << 32, []byte{14, 1, 0, 0, 0, 0}},
		{1<<40 - 1, []byte{14, 255, 255, 255, 255, 255}},
		{1 << 40, []byte{15, 1, 0, 0, 0, 0, 0}},
		{1<<48 - 1, []byte{15, 255, 255, 255, 255, 255, 255}},
		{1 << 48, []byte{16, 1, 0, 0, 0, 0, 0, 0}},
		{1<<56 - 1, []byte{16, 255, 255, 255, 255, 255, 255, 255}},
		{1 << 56, []byte{17, 1, 0, 0, 0, 0, 0, 0, 0}},
		{math.MaxInt64, []byte{17, 127, 255, 255, 255, 255, 255, 255, 255}},
		{-1, []byte{8}},
		{-2, []byte{7, 254}},
		{-256, []byte{7, 0}},
		{-257, []byte{6, 254, 255}},
		{-300, []byte{6, 254, 212}},
		{-1 << 16, []byte{6, 0, 0}},
		{-1<<16 - 1, []byte{5, 254, 255, 255}},
		{-1 << 24, []byte{5, 0, 0, 0}},
		{-1<<24 - 1, []byte{4, 254, 255, 255, 255}},
		{-1 << 32, []byte{4, 0, 0, 0, 0}},
		{-1<<32 - 1, []byte{3, 254, 255, 255, 255, 255}},
		{-1 << 40, []byte{3, 0, 0, 0, 0, 0}},
		{-1<<40 - 1, []byte{2, 254, 255, 255, 255, 255, 255}},
		{-1 << 48, []byte{2, 0, 0, 0, 0, 0, 0}},
		{-1<<48 - 1, []byte{1, 254, 255, 255, 255, 255, 255, 255}},
		{-1 << 56, []byte{1, 0, 0, 0, 0, 0, 0, 0}},
		{-1<<56 - 1, []byte{0, 254, 255, 255, 255, 255, 255, 255, 255}},
		{math.MinInt64 + 1, []byte{0, 128, 0, 0, 0, 0, 0, 0, 1}},
		{math.MinInt64, []byte{0, 128, 0, 0, 0, 0, 0, 0, 0}},
	} {
		checkBytes(t, code.I(c.x), c.want, "I", c.x)
		checkBytes(t, defineI(c.x), c.want, "the definition of I", c.x)
	}
	for _, x := range signed() {
		checkBytes(t, code.I(x), defineI(x), "I", x)
	}
}

// Promise 7.1: both zeros, infinities, NaN, and the ends of the finite floats,
// written out.
func TestF(t *testing.T) {
	for _, c := range []struct {
		x    float64
		want []byte
	}{
		{0, []byte{128, 0, 0, 0, 0, 0, 0, 0}},
		{minus0, []byte{127, 255, 255, 255, 255, 255, 255, 255}},
		{smallest, []byte{128, 0, 0, 0, 0, 0, 0, 1}},
		{-smallest, []byte{127, 255, 255, 255, 255, 255, 255, 254}},
		{1, []byte{191, 240, 0, 0, 0, 0, 0, 0}},
		{-1, []byte{64, 15, 255, 255, 255, 255, 255, 255}},
		{1.5, []byte{191, 248, 0, 0, 0, 0, 0, 0}},
		{largest, []byte{255, 239, 255, 255, 255, 255, 255, 255}},
		{-largest, []byte{0, 16, 0, 0, 0, 0, 0, 0}},
		{infinity, []byte{255, 240, 0, 0, 0, 0, 0, 0}},
		{-infinity, []byte{0, 15, 255, 255, 255, 255, 255, 255}},
		{nan, []byte{255, 255, 255, 255, 255, 255, 255, 255}},
	} {
		checkBytes(t, code.F(c.x), c.want, "F", c.x)
		checkBytes(t, defineF(c.x), c.want, "the definition of F", c.x)
	}
	for _, x := range floats() {
		checkBytes(t, code.F(x), defineF(x), "F", x)
	}
	for _, x := range nans() {
		checkBytes(t, code.F(x), code.F(nan), "F of NaN with the bits", math.Float64bits(x))
	}
}

// Promise 7.1: the empty string, and zeros at the start, at the end, between and
// twice in a row, written out.
func TestT(t *testing.T) {
	for _, c := range []struct {
		s    string
		want []byte
	}{
		{"", []byte{0, 0}},
		{"a", []byte{97, 0, 0}},
		{"ab", []byte{97, 98, 0, 0}},
		{"a\x00b", []byte{97, 0, 1, 98, 0, 0}},
		{"\x00", []byte{0, 1, 0, 0}},
		{"\x00a", []byte{0, 1, 97, 0, 0}},
		{"a\x00", []byte{97, 0, 1, 0, 0}},
		{"\x00\x00", []byte{0, 1, 0, 1, 0, 0}},
		{"a\x00\x00b", []byte{97, 0, 1, 0, 1, 98, 0, 0}},
		{"\x01", []byte{1, 0, 0}},
		{"\x00\x01", []byte{0, 1, 1, 0, 0}},
		{"\x01\x00", []byte{1, 0, 1, 0, 0}},
		{"\xff", []byte{255, 0, 0}},
		{"\x00\xff", []byte{0, 1, 255, 0, 0}},
		{"\u20ac", []byte{226, 130, 172, 0, 0}},
		{"\xc3\x28", []byte{195, 40, 0, 0}},
	} {
		checkBytes(t, code.T(c.s), c.want, "T", c.s)
		checkBytes(t, defineT(c.s), c.want, "the definition of T", c.s)
	}
	for _, s := range texts() {
		checkBytes(t, code.T(s), defineT(s), "T", s)
	}
	long := strings.Repeat("a\x00", 1<<17)
	checkBytes(t, code.T(long), defineT(long), "T of a long string")
}

// Promise 7.1: equal strings, a proper prefix, the first position where they
// differ, and nil.
func TestLess(t *testing.T) {
	for _, c := range []struct {
		a, b []byte
		want bool
	}{
		{nil, nil, false},
		{nil, []byte{}, false},
		{[]byte{}, nil, false},
		{nil, []byte{0}, true},
		{[]byte{0}, nil, false},
		{[]byte{1, 2, 3}, []byte{1, 2, 3}, false},
		{[]byte{1, 2}, []byte{1, 2, 0}, true},
		{[]byte{1, 2, 0}, []byte{1, 2}, false},
		{[]byte{1}, []byte{2}, true},
		{[]byte{2}, []byte{1}, false},
		{[]byte{127}, []byte{128}, true},
		{[]byte{0}, []byte{255}, true},
		{[]byte{255}, []byte{0}, false},
		{[]byte{1, 255}, []byte{2, 0}, true},
		{[]byte{2, 0}, []byte{1, 255}, false},
		{[]byte{1, 2, 255, 255}, []byte{1, 3}, true},
		{[]byte{1, 3}, []byte{1, 2, 255, 255}, false},
		{[]byte{255}, []byte{255, 255}, true},
		{[]byte{1, 5, 9}, []byte{1, 6, 8}, true},
		{[]byte{1, 6, 8}, []byte{1, 5, 9}, false},
	} {
		if got := code.Less(c.a, c.b); got != c.want {
			t.Errorf("Less(%d, %d) = %t; want %t", c.a, c.b, got, c.want)
		}
		if got := precedes(c.a, c.b); got != c.want {
			t.Errorf("the definition of Less(%d, %d) = %t; want %t", c.a, c.b, got, c.want)
		}
	}
	for _, a := range strung("\x00\x01\x7f\x80\xff", 3) {
		for _, b := range strung("\x00\x01\x7f\x80\xff", 3) {
			if got := code.Less([]byte(a), []byte(b)); got != precedes([]byte(a), []byte(b)) {
				t.Errorf("Less(%x, %x) = %t", a, b, got)
			}
		}
	}
}

// Promise 7.1: Less of long strings that differ at one place, or in their length
// alone.
func TestLessLong(t *testing.T) {
	b := []byte(strings.Repeat("bushel", 2000))
	for _, i := range []int{0, 1, 7, 8, 15, 16, 31, 32, 63, 64, 5999, len(b) - 1} {
		more := []byte(string(b))
		more[i]++
		for _, end := range []int{i + 1, len(b)} {
			if !code.Less(b, more[:end]) || code.Less(more[:end], b) {
				t.Errorf("a greater byte at %d of %d does not count", i, end)
			}
		}
		if !code.Less(b[:i], b) || code.Less(b, b[:i]) {
			t.Errorf("the prefix of %d bytes does not precede", i)
		}
	}
	if code.Less(b, []byte(string(b))) {
		t.Errorf("a long string precedes its copy")
	}
}
