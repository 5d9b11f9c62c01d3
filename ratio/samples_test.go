package ratio_test

import (
	"math"
	"slices"
	"testing"

	"bushel/nat"
)

const (
	// smallest is the smallest positive float, and largest the largest finite one.
	smallest = 0x1p-1074
	largest  = 0x1.fffffffffffffp1023

	// full is the smallest positive float with 53 significant bits.
	full = 0x1p-1022
)

var (
	infinity = math.Inf(1)
	nan      = math.NaN()
	minus0   = math.Copysign(0, -1)
)

// positives holds finite floats from 0 on: the ends, the places where the number
// of significant bits or the exponent changes, with even and with odd
// significands, and ordinary numbers.
func positives() []float64 {
	return []float64{
		0, smallest, 2 * smallest, 3 * smallest, 4 * smallest, 1000 * smallest, 1001 * smallest,
		full - 2*smallest, full - smallest, full, full + smallest, 2*full - smallest, 2 * full, 2*full + 2*smallest,
		1e-300, 0x1p-537, 0x1p-52, 0.1, 1.0 / 3.0, 0x1.fffffffffffffp-2, 0.5, 0x1.fffffffffffffp-1,
		1, 0x1.0000000000001p0, 0x1.0000000000002p0, 1.5, 2, 3, 10, 1e9, 0x1p31, 0x1p32,
		1<<52 - 0.5, 1 << 52, 1<<52 + 1, 1<<53 - 1, 1 << 53, 1<<53 + 2, 0x1p63, 0x1p64, 1e22, 1e100, 0x1p511,
		0x1p1022, 0x1.fffffffffffffp1022, 0x1p1023, 0x1.ffffffffffffep1023, largest,
	}
}

// mixer makes the same words in every run.
type mixer uint64

func (m *mixer) word() uint32 {
	*m = *m*6364136223846793005 + 1442695040888963407
	return uint32(*m >> 32)
}

// below returns a number below n.
func (m *mixer) below(n int) int {
	return int(m.word()) % n
}

// list returns a number of exactly so many bits.
func (m *mixer) list(length int) []uint32 {
	l := make([]uint32, (length+31)/32)
	for i := range l {
		l[i] = m.word()
	}
	return nat.Add(power(length-1), nat.Shr(nat.Trim(l), len(l)*32-length+1))
}

// float returns a finite float of any magnitude that is not below 0.
func (m *mixer) float() float64 {
	for {
		x := math.Float64frombits(uint64(m.word()>>1)<<32 | uint64(m.word()))
		if x <= largest {
			return x
		}
	}
}

// floats holds the positives and n mixed floats.
func floats(seed mixer, n int) []float64 {
	l := positives()
	for range n {
		l = append(l, seed.float())
	}
	return l
}

// power returns 2^n.
func power(n int) []uint32 {
	return shift(nat.Of(1), n)
}

func shift(a []uint32, n int) []uint32 {
	shifted, ok := nat.Shl(a, n)
	if !ok {
		panic("no such shift")
	}
	return shifted
}

func minus(a, b []uint32) []uint32 {
	difference, ok := nat.Sub(a, b)
	if !ok {
		panic("no such difference")
	}
	return difference
}

// with0s returns a with trailing zero words.
func with0s(a []uint32) []uint32 {
	return append(slices.Clone(a), 0, 0, 0)
}

// nothings are the lists of 0.
func nothings() [][]uint32 {
	return [][]uint32{nil, {}, {0}, {0, 0}, make([]uint32, 200)}
}

// identical tells 0 from -0, and takes all NaN values as one.
func identical(a, b float64) bool {
	if a != a || b != b {
		return a != a && b != b
	}
	return math.Float64bits(a) == math.Float64bits(b)
}

func checkFloat(t *testing.T, got, want float64, name string, arguments ...any) {
	t.Helper()
	if !identical(got, want) {
		t.Errorf("%s%v = %x; want %x", name, arguments, got, want)
	}
}

// short keeps messages about long lists readable.
func short(a []uint32) []uint32 {
	return a[:min(len(a), 8)]
}
