package exact_test

import (
	"bytes"
	"math"
	"slices"
	"testing"

	"bushel/api"
	"bushel/exact"
)

const (
	// smallest is the smallest positive float, and largest the largest finite one.
	smallest = 0x1p-1074
	largest  = 0x1.fffffffffffffp1023

	// full is the smallest positive float with 53 significant bits.
	full = 0x1p-1022

	least = math.MinInt64
	most  = math.MaxInt64
)

// The flags of an encoding, in the chapter's words.
const (
	flagNaN           = 1
	flagInfinity      = 2
	flagMinusInfinity = 4
	flagMinus0        = 8
	flagOther         = 16
	flagNegative      = 32
)

// maxWords is how many words the longest total has.
const maxWords = 70

var (
	infinity = math.Inf(1)
	nan      = math.NaN()
	minus0   = math.Copysign(0, -1)
)

// positives holds positive finite floats in increasing order: the ends, the
// places where the number of significant bits or of words changes, with even and
// with odd significands, and ordinary numbers.
func positives() []float64 {
	return []float64{
		smallest, 2 * smallest, 3 * smallest, 4 * smallest, 1000 * smallest, 1001 * smallest,
		0x1p-1043, 0x1p-1042, full - smallest, full, full + smallest, 2*full - smallest, 2 * full, 2*full + 2*smallest,
		1e-300, 0x1p-53, 0.1, 1.0 / 3.0, 0.5, 0x1.fffffffffffffp-1, 1, 0x1.0000000000001p0, 1.5, 2, 3, 10, 1e9,
		1 << 52, 1<<53 - 1, 1 << 53, 1<<53 + 2, 0x1p63, 1e22, 1e100,
		0x1p1022, 0x1.fffffffffffffp1022, 0x1p1023, 0x1.ffffffffffffep1023, largest,
	}
}

// specials holds zeros, infinities and NaN values of different bits.
func specials() []float64 {
	return []float64{
		0, minus0, infinity, -infinity, nan,
		math.Float64frombits(0x7ff0000000000001), math.Float64frombits(0xfff8000000000000), math.Float64frombits(math.MaxUint64),
	}
}

// all holds the specials, and the positives with either sign.
func all() []float64 {
	l := specials()
	for _, x := range positives() {
		l = append(l, x, -x)
	}
	return l
}

// mixer makes the same words in every run.
type mixer uint64

func (m *mixer) word() uint32 {
	*m = *m*6364136223846793005 + 1442695040888963407
	return uint32(*m >> 32)
}

// below returns a number below n.
func (m *mixer) below(n int) int {
	return int(m.word()) % n
}

// finite returns a finite float of any magnitude and sign.
func (m *mixer) finite() float64 {
	for {
		x := math.Float64frombits(uint64(m.word())<<32 | uint64(m.word()))
		if math.Abs(x) <= largest {
			return x
		}
	}
}

// float returns any float: a mixed one, one near it in magnitude to others, or a
// sample.
func (m *mixer) float() float64 {
	l := all()
	switch m.below(4) {
	case 0:
		return m.finite()
	case 1:
		return l[m.below(len(l))]
	}
	return float64(int32(m.word())) * 0.1
}

// floats returns n floats; if special is false, all of them are finite.
func (m *mixer) floats(n int, special bool) []float64 {
	l := make([]float64, 0, n)
	for len(l) < n {
		if x := m.float(); special || math.Abs(x) <= largest {
			l = append(l, x)
		}
	}
	return l
}

// mix puts l in another order.
func (m *mixer) mix(l []float64) {
	for i := range l {
		j := m.below(i + 1)
		l[i], l[j] = l[j], l[i]
	}
}

// identical tells 0 from -0, and takes all NaN values as one.
func identical(a, b float64) bool {
	if a != a || b != b {
		return a != a && b != b
	}
	return math.Float64bits(a) == math.Float64bits(b)
}

func checkFloat(t *testing.T, got, want float64, name string, arguments ...any) {
	t.Helper()
	if !identical(got, want) {
		t.Errorf("%s%v = %x; want %x", name, arguments, got, want)
	}
}

// sumOf returns the sum to which the elements of l were added.
func sumOf(t *testing.T, l ...float64) *exact.Sum {
	t.Helper()
	s := exact.New()
	for _, x := range l {
		if !s.Add(x) {
			t.Fatalf("Add(%x) was refused", x)
		}
	}
	return s
}

// encoding puts an encoding together; the most significant word comes first.
func encoding(flags, noughts int, words ...uint32) []byte {
	b := []byte{byte(flags), byte(noughts), byte(len(words))}
	for _, word := range words {
		b = append(b, byte(word>>24), byte(word>>16), byte(word>>8), byte(word))
	}
	return b
}

// longest returns the encoding of a total of 2240 bits that are all 1.
func longest(flags int) []byte {
	return encoding(flags, 0, slices.Repeat([]uint32{math.MaxUint32}, maxWords)...)
}

// read returns the sum with this encoding.
func read(t *testing.T, b []byte) *exact.Sum {
	t.Helper()
	s, errno := exact.Read(b)
	if errno != api.OK || s == nil {
		t.Fatalf("Read(%x) = %v, %d", b, s, errno)
	}
	return s
}

func checkBytes(t *testing.T, s *exact.Sum, want []byte, about ...any) {
	t.Helper()
	if got := s.Bytes(); !bytes.Equal(got, want) {
		t.Errorf("%v: the encoding is %x; want %x", about, got, want)
	}
}

// The samples are positive and increase.
func TestSamples(t *testing.T) {
	l := positives()
	for i := range len(l) - 1 {
		if !(0 < l[i] && l[i] < l[i+1] && l[i+1] < infinity) {
			t.Errorf("samples %d and %d, %x and %x, are out of order", i, i+1, l[i], l[i+1])
		}
	}
}
