package code_test

import (
	"bytes"
	"math"
	"slices"
	"strings"
	"testing"

	"bushel/flo"
)

const (
	// smallest is the smallest positive float, and largest the largest finite one.
	smallest = 0x1p-1074
	largest  = 0x1.fffffffffffffp1023
)

var (
	infinity = math.Inf(1)
	nan      = math.NaN()
	minus0   = math.Copysign(0, -1)
)

// mixer makes the same words in every run.
type mixer uint64

func (m *mixer) word() uint64 {
	*m = *m*6364136223846793005 + 1442695040888963407
	high := *m >> 32
	*m = *m*6364136223846793005 + 1442695040888963407
	return uint64(high<<32 | *m>>32)
}

// unsigned holds integers in increasing order, each one once: the ends, both sides
// of each change of the number of bytes and of signed integers' end, and mixed
// ones of all lengths.
func unsigned() []uint64 {
	l := []uint64{0, 1, 2, 127, 128, 300, math.MaxInt64 - 1, math.MaxInt64, math.MaxInt64 + 1, math.MaxInt64 + 2, math.MaxUint64 - 1, math.MaxUint64}
	for size := 1; size < 8; size++ {
		first := uint64(1) << (8 * size)
		l = append(l, first-2, first-1, first, first+1, 2*first-1, 2*first, 128*first-1, 128*first)
	}
	m := mixer(1)
	for size := range 64 {
		l = append(l, m.word()>>size)
	}
	slices.Sort(l)
	return slices.Compact(l)
}

// signed holds integers in increasing order, each one once: those of unsigned that
// are small enough, and -1 minus each of these.
func signed() []int64 {
	var l []int64
	for _, x := range unsigned() {
		if x <= math.MaxInt64 {
			l = append(l, int64(x), -1-int64(x))
		}
	}
	slices.Sort(l)
	return l
}

// floats holds floats in the order, each one once: the ends, the zeros and their
// neighbours, the places where the exponent or the kind changes, and mixed ones.
func floats() []float64 {
	l := []float64{
		smallest, 2 * smallest, 255 * smallest, 256 * smallest, 65535 * smallest,
		0x1p-1022 - smallest, 0x1p-1022, 0x1p-1022 + smallest, 1e-300, 0.1,
		0.5, 0x1.fffffffffffffp-1, 1, 0x1.0000000000001p0, 1.5, 2, 3, 300,
		1<<53 - 1, 1 << 53, 0x1p63, 0x1p64, 1e100, 0x1p1023, 0x1.ffffffffffffep1023, largest,
	}
	m := mixer(2)
	for len(l) < 80 {
		if x := math.Float64frombits(m.word() >> 1); x < infinity {
			l = append(l, x)
		}
	}
	slices.Sort(l)
	l = slices.Compact(l)
	for _, x := range slices.Clone(l) {
		l = slices.Insert(l, 0, -x)
	}
	half := len(l) / 2
	l = slices.Insert(l, half, minus0, 0)
	l = slices.Insert(l, 0, -infinity)
	return append(l, infinity, nan)
}

// nans holds NaN values that differ in their bits.
func nans() []float64 {
	return []float64{
		nan,
		math.Float64frombits(0x7ff0000000000001),
		math.Float64frombits(0x7ff8000000000000),
		math.Float64frombits(0x7fffffffffffffff),
		math.Float64frombits(0xfff0000000000001),
		math.Float64frombits(0xfff8000000000000),
		math.Float64frombits(0xffffffffffffffff),
	}
}

// strung returns all strings of up to n of the letters.
func strung(letters string, n int) []string {
	l := []string{""}
	for from := 0; n > 0; n-- {
		end := len(l)
		for _, s := range l[from:end] {
			for i := range len(letters) {
				l = append(l, s+letters[i:i+1])
			}
		}
		from = end
	}
	return l
}

// texts holds strings in increasing order, each one once: all short ones of the
// bytes that matter, and longer ones with each byte, with many zeros, and with
// ordinary text.
func texts() []string {
	l := strung("\x00\x01\x02a\xff", 3)
	l = append(l, "bushel", "a\x00b", "\x00bushel\x00", "bushel\x00\x00s", "b\u00e4u\u20ac", "\xc3\x28",
		strings.Repeat("\x00", 50), strings.Repeat("\x01", 50), strings.Repeat("\xff", 50), strings.Repeat("long ", 1000))
	var every []byte
	for x := range 256 {
		every = append(every, byte(x))
		l = append(l, string([]byte{byte(x)}), string([]byte{'a', byte(x), 'b'}))
	}
	l = append(l, string(every))
	slices.Sort(l)
	return slices.Compact(l)
}

// The samples are in the order of their values, so that the tests may rely on
// their places.
func TestSamples(t *testing.T) {
	l := floats()
	for i := range len(l) - 2 {
		if !(l[i] < l[i+1]) && !(identical(l[i], minus0) && identical(l[i+1], 0)) {
			t.Errorf("samples %d and %d, %x and %x, are out of order", i, i+1, l[i], l[i+1])
		}
	}
}

// The definitions below follow the chapter word by word.

// defineU is the encoding U of x.
func defineU(x uint64) []byte {
	var b []byte
	for ; x > 0; x /= 256 {
		b = slices.Insert(b, 0, byte(x%256))
	}
	return slices.Insert(b, 0, byte(len(b)))
}

// defineI is the encoding I of x.
func defineI(x int64) []byte {
	if x >= 0 {
		b := defineU(uint64(x))
		b[0] += 9
		return b
	}
	b := defineU(uint64(-1 - x))
	for i := range b {
		if i == 0 {
			b[i] = 8 - b[i]
		} else {
			b[i] = 255 - b[i]
		}
	}
	return b
}

// defineF is the encoding F of x.
func defineF(x float64) []byte {
	b := make([]byte, 8)
	key := flo.Key(x)
	for i := range b {
		b[7-i] = byte(key % 256)
		key /= 256
	}
	return b
}

// defineT is the encoding T of s.
func defineT(s string) []byte {
	return []byte(strings.ReplaceAll(s, "\x00", "\x00\x01") + "\x00\x00")
}

// precedes reports whether a precedes b.
func precedes(a, b []byte) bool {
	for i := range min(len(a), len(b)) {
		if a[i] != b[i] {
			return a[i] < b[i]
		}
	}
	return len(a) < len(b)
}

// identical tells 0 from -0, and takes all NaN values as one.
func identical(a, b float64) bool {
	if a != a || b != b {
		return a != a && b != b
	}
	return math.Float64bits(a) == math.Float64bits(b)
}

func equal[V comparable](a, b V) bool {
	return a == b
}

func checkBytes(t *testing.T, got, want []byte, name string, arguments ...any) {
	t.Helper()
	if !bytes.Equal(got, want) {
		t.Errorf("%s%x = %d; want %d", name, arguments, got, want)
	}
}
