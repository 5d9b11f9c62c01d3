package flo_test

import (
	"math"
	"slices"
	"testing"
)

const (
	// smallest is the smallest positive float, and largest the largest finite one.
	smallest = 0x1p-1074
	largest  = 0x1.fffffffffffffp1023

	// full is the smallest positive float with 53 significant bits.
	full = 0x1p-1022
)

var (
	infinity = math.Inf(1)
	nan      = math.NaN()
	minus0   = math.Copysign(0, -1)
)

// positives holds positive finite floats in increasing order: the ends, the
// places where the number of significant bits, the exponent or the kind of
// integer changes, and ordinary numbers.
func positives() []float64 {
	return []float64{
		smallest, 2 * smallest, 3 * smallest, 1000 * smallest,
		full / 2, full - smallest, full, full + smallest, 2*full - smallest, 2 * full, 2*full + 2*smallest,
		1e-300, 0x1p-53, 0.1,
		0x1.fffffffffffffp-2, 0.5, 0x1.fffffffffffffp-1, 1, 0x1.0000000000001p0, 1.5, 2, 3, 6, 1e9,
		0x1p31, 0x1p32, 1<<52 - 0.5, 1 << 52, 1<<53 - 1, 1 << 53, 1<<53 + 2, 0x1p63, 0x1p64, 1e22, 1e100,
		0x1p1023, 0x1.ffffffffffffep1023, largest,
	}
}

// increasing holds floats in the order, each one once.
func increasing() []float64 {
	l := []float64{-infinity}
	for _, x := range slices.Backward(positives()) {
		l = append(l, -x)
	}
	l = append(l, minus0, 0)
	l = append(l, positives()...)
	return append(l, infinity, nan)
}

// nans holds NaN values that differ in their bits.
func nans() []float64 {
	return []float64{
		nan,
		math.Float64frombits(0x7ff0000000000001),
		math.Float64frombits(0x7ff8000000000000),
		math.Float64frombits(0x7fffffffffffffff),
		math.Float64frombits(0xfff0000000000001),
		math.Float64frombits(0xfff8000000000000),
		math.Float64frombits(0xffffffffffffffff),
	}
}

// mixer makes the same words in every run.
type mixer uint64

func (m *mixer) word() uint32 {
	*m = *m*6364136223846793005 + 1442695040888963407
	return uint32(*m >> 32)
}

func (m *mixer) list(words int) []uint32 {
	l := make([]uint32, words)
	for i := range l {
		l[i] = m.word()
	}
	return l
}

// mixed holds floats of all magnitudes and both signs, none of them NaN.
func mixed(n int) []float64 {
	m := mixer(3)
	l := make([]float64, 0, n)
	for len(l) < n {
		x := math.Float64frombits(uint64(m.word())<<32 | uint64(m.word()))
		if x == x {
			l = append(l, x)
		}
	}
	return l
}

// identical tells 0 from -0, and takes all NaN values as one.
func identical(a, b float64) bool {
	if a != a || b != b {
		return a != a && b != b
	}
	return math.Float64bits(a) == math.Float64bits(b)
}

func checkFloat(t *testing.T, got, want float64, name string, arguments ...any) {
	t.Helper()
	if !identical(got, want) {
		t.Errorf("%s%v = %x; want %x", name, arguments, got, want)
	}
}

// The samples are in the order that the chapter gives, so that the tests may
// rely on their places.
func TestSamples(t *testing.T) {
	l := positives()
	for i := range len(l) - 1 {
		if !(0 < l[i] && l[i] < l[i+1] && l[i+1] < infinity) {
			t.Errorf("samples %d and %d, %x and %x, are out of order", i, i+1, l[i], l[i+1])
		}
	}
}
