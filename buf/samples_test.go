package buf_test

import (
	"math"
	"slices"
	"strconv"
	"strings"
	"testing"

	"bushel/api"
	"bushel/buf"
	"bushel/flo"
)

var minus0 = math.Copysign(0, -1)

// mixer makes the same words in every run.
type mixer uint64

func (m *mixer) word() uint64 {
	*m = *m*6364136223846793005 + 1442695040888963407
	high := *m >> 32
	*m = *m*6364136223846793005 + 1442695040888963407
	return uint64(high<<32 | *m>>32)
}

// below returns a number from 0 to n - 1.
func (m *mixer) below(n int) int {
	return int(m.word() % uint64(n))
}

// The texts of values tell apart what the tests must: 0 and -0 too, but not two
// values NaN, nor two lists without bytes.

func textU(x uint64) string  { return strconv.FormatUint(x, 10) }
func textI(x int64) string   { return strconv.FormatInt(x, 10) }
func textF(x float64) string { return strconv.FormatFloat(x, 'x', -1, 64) }
func textT(s string) string  { return strconv.Quote(s) }
func textB(b []byte) string  { return strconv.Quote(string(b)) }

// value is a value, and how it is written, encoded and read back. The bounds under
// which it is read are those that it just meets.
type value struct {
	text     string
	put      func(*buf.Out)
	encoding []byte
	back     call
}

func ofU(x uint64) value {
	return value{textU(x), func(o *buf.Out) { o.U(x) }, defineU(x), readU(x)}
}

func ofI(x int64) value {
	return value{textI(x), func(o *buf.Out) { o.I(x) }, defineI(x), readI()}
}

func ofF(x float64) value {
	return value{textF(x), func(o *buf.Out) { o.F(x) }, defineF(x), readF()}
}

func ofT(s string) value {
	return value{textT(s), func(o *buf.Out) { o.T(s) }, defineT(s), readT(len(s))}
}

func ofB(s string) value {
	return value{textT(s), func(o *buf.Out) { o.B([]byte(s)) }, defineB(s), readB(len(s))}
}

// The definitions below follow the chapters word by word.

func defineU(x uint64) []byte {
	var b []byte
	for ; x > 0; x /= 256 {
		b = slices.Insert(b, 0, byte(x%256))
	}
	return slices.Insert(b, 0, byte(len(b)))
}

func defineI(x int64) []byte {
	if x >= 0 {
		b := defineU(uint64(x))
		b[0] += 9
		return b
	}
	b := defineU(uint64(-1 - x))
	for i := range b[1:] {
		b[1+i] = 255 - b[1+i]
	}
	b[0] = 8 - b[0]
	return b
}

func defineF(x float64) []byte {
	b := make([]byte, 8)
	key := flo.Key(x)
	for i := range b {
		b[7-i] = byte(key % 256)
		key /= 256
	}
	return b
}

func defineT(s string) []byte {
	return []byte(strings.ReplaceAll(s, "\x00", "\x00\x01") + "\x00\x00")
}

func defineB(s string) []byte {
	return append(defineU(uint64(len(s))), s...)
}

// strung returns all strings of up to n of the letters.
func strung(letters string, n int) []string {
	l := []string{""}
	for from := 0; n > 0; n-- {
		end := len(l)
		for _, s := range l[from:end] {
			for i := range len(letters) {
				l = append(l, s+letters[i:i+1])
			}
		}
		from = end
	}
	return l
}

// texts holds strings: short ones of the bytes that matter, all bytes, and lengths
// on both sides of each change of the number of bytes that a length needs.
func texts() []string {
	l := strung("\x00\x01\xff", 2)
	l = append(l, "a", "bushel", "a\x00b", "b\u00e4u\u20ac", "\xc3\x28")
	for _, n := range []int{8, 9, 17, 255, 256, 257, 65535, 65536} {
		l = append(l, strings.Repeat("x", n), strings.Repeat("\x00", n))
	}
	var every []byte
	for x := range 256 {
		every = append(every, byte(x))
	}
	return append(l, string(every))
}

// values holds values of all kinds, with the ends of each one.
func values() []value {
	var l []value
	for _, x := range []uint64{0, 1, 2, 5, 127, 128, 255, 256, 300, 65535, 65536, 1<<32 - 1, 1 << 32, 1<<56 - 1, 1 << 56, math.MaxInt64, math.MaxInt64 + 1, math.MaxUint64} {
		l = append(l, ofU(x), ofI(int64(x)), ofI(-int64(x)), ofI(-1-int64(x)))
	}
	for _, x := range []float64{0, minus0, 1, -1, 0.1, -2.5, 0x1p-1074, -0x1p-1074, math.MaxFloat64, -math.MaxFloat64, math.Inf(1), math.Inf(-1), math.NaN()} {
		l = append(l, ofF(x))
	}
	for _, s := range texts() {
		l = append(l, ofT(s), ofB(s))
	}
	return l
}

// mixed returns a value of some kind and size.
func (m *mixer) mixed() value {
	x := m.word() >> m.below(64)
	letters := make([]byte, m.below(20))
	for i := range letters {
		letters[i] = byte(m.word()) >> m.below(8)
	}
	switch m.below(5) {
	case 0:
		return ofU(x)
	case 1:
		return ofI(int64(m.word()) >> m.below(64))
	case 2:
		return ofF(math.Float64frombits(m.word()))
	case 3:
		return ofT(string(letters))
	}
	return ofB(string(letters))
}

// call is a call that reads a value, with the value's text as the result. What it
// must be comes from none, the text if nothing is read, and from find, which
// returns of the bytes from the position on the text, the length and the error.
type call struct {
	name string
	run  func(*buf.In) string
	none string
	find func([]byte) (string, int, api.Errno)
}

// checkBytes fails if the writer has not these bytes.
func checkBytes(t *testing.T, o *buf.Out, want []byte, name string) {
	t.Helper()
	if got := o.Bytes(); !slices.Equal(got, want) {
		t.Errorf("%s: the bytes are %d; want %d", name, got, want)
	}
}

// checkRead fails if the call does not read this value, or if there are not so
// many bytes left behind it.
func checkRead(t *testing.T, i *buf.In, c call, want string, left int) {
	t.Helper()
	if got := c.run(i); got != want {
		t.Errorf("%s = %s; want %s", c.name, got, want)
	}
	checkLeft(t, i, left, c.name)
}

// checkLeft fails if the reader has a fault, or not so many bytes left.
func checkLeft(t *testing.T, i *buf.In, left int, name string) {
	t.Helper()
	if at, errno := i.Fault(); at != 0 || errno != api.OK {
		t.Errorf("%s: the fault is %d, %d; want none", name, at, errno)
	}
	if got := i.Left(); got != left {
		t.Errorf("%s: %d bytes are left; want %d", name, got, left)
	}
}

// checkRefused fails if the call reads anything, or if it does not record this
// fault.
func checkRefused(t *testing.T, i *buf.In, c call, at int, errno api.Errno) {
	t.Helper()
	if got := c.run(i); got != c.none {
		t.Errorf("%s = %s; want %s", c.name, got, c.none)
	}
	checkFault(t, i, at, errno, c.name)
}

// checkFault fails if the reader has not this fault, or if any further call, made
// twice, reads something or changes the fault.
func checkFault(t *testing.T, i *buf.In, at int, errno api.Errno, name string) {
	t.Helper()
	calls := []call{readU(0), readU(math.MaxUint64), readI(), readF(), readT(0), readT(math.MaxInt), readB(0), readB(math.MaxInt)}
	for range 2 {
		for _, c := range calls {
			if got := c.run(i); got != c.none {
				t.Errorf("%s: %s = %s after the fault; want %s", name, c.name, got, c.none)
			}
			if gotAt, got := i.Fault(); gotAt != at || got != errno {
				t.Errorf("%s: the fault is %d, %d; want %d, %d", name, gotAt, got, at, errno)
			}
		}
		if got := i.Left(); got != 0 {
			t.Errorf("%s: %d bytes are left after the fault; want 0", name, got)
		}
		if got := i.End(); got != errno {
			t.Errorf("%s: End = %d after the fault; want %d", name, got, errno)
		}
	}
}
