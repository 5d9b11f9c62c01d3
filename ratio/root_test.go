package ratio_test

import (
	"math"
	"testing"

	"bushel/nat"
	"bushel/ratio"
)

// checkRoot holds Root against a float, also with trailing zero words.
func checkRoot(t *testing.T, a, b []uint32, want float64) {
	t.Helper()
	checkFloat(t, ratio.Root(a, b), want, "Root", short(a), short(b))
	checkFloat(t, ratio.Root(with0s(a), with0s(b)), want, "Root", short(a), short(b), "with zero words")
}

// Promise 4.2: ordinary inputs.
func TestRoot(t *testing.T) {
	for _, c := range []struct {
		a, b uint64
		want float64
	}{
		{1, 1, 1},
		{4, 1, 2},
		{1, 4, 0.5},
		{9, 4, 1.5},
		{18, 8, 1.5},
		{2, 1, math.Sqrt2},
		{4, 2, math.Sqrt2},
		{1, 2, math.Sqrt2 / 2},
		{8, 1, 2 * math.Sqrt2},
		{3, 1, 0x1.bb67ae8584caap0},
		{1, 3, 0x1.279a74590331cp-1},
		{1e18, 1, 1e9},
		{1, 1 << 62, 0x1p-31},
		{1 << 63, 1, math.Sqrt2 * (1 << 31)},
		{math.MaxUint64, 1, 0x1p32},
		{math.MaxUint64, math.MaxUint64, 1},
		{1, math.MaxUint64, 0x1p-32},
	} {
		checkRoot(t, nat.Of(c.a), nat.Of(c.b), c.want)
	}
}

// Promise 4.2: a root of a float is rounded once by the library, too.
func TestRootOfFloats(t *testing.T) {
	m := mixer(6)
	for _, x := range floats(7, 500) {
		digits, e := significand(x)
		a, b := nat.Of(digits), nat.Of(1)
		if e < 0 {
			b = shift(b, -e)
		} else {
			a = shift(a, e)
		}
		checkRoot(t, a, b, math.Sqrt(x))
		for _, factor := range [][]uint32{{7}, m.list(64), m.list(1500)} {
			checkRoot(t, nat.Mul(a, factor), nat.Mul(b, factor), math.Sqrt(x))
		}
	}
}

// Promise 4.2: the ends of what floats hold, in numbers that are easy to read.
func TestRootAtEnds(t *testing.T) {
	one := nat.Of(1)
	edge := shift(nat.Of(1<<54-1), 970)
	far := nat.Mul(edge, edge)
	top := shift(nat.Of(1<<53-1), 971)
	for _, c := range []struct {
		a, b []uint32
		want float64
	}{
		{one, power(2148), smallest},
		{one, power(2150), 0},
		{one, minus(power(2150), one), smallest},
		{one, nat.Add(power(2150), one), 0},
		{nat.Add(power(800), one), power(2950), smallest},
		{minus(power(800), one), power(2950), 0},
		{one, power(2149), smallest},
		{nat.Of(9), power(2150), 2 * smallest},
		{nat.Of(2), power(2148), smallest},
		{nat.Of(3), power(2148), 2 * smallest},
		{one, power(2999), 0},
		{one, power(2044), full},
		{nat.Mul(top, top), one, largest},
		{far, one, infinity},
		{minus(far, one), one, largest},
		{nat.Add(far, one), one, infinity},
		{shift(far, 900), power(900), infinity},
		{minus(shift(far, 900), one), power(900), largest},
		{shift(far, 900), nat.Add(power(900), one), largest},
		{power(2046), one, 0x1p1023},
		{power(2048), one, infinity},
		{power(2999), one, infinity},
		{power(2999), power(2998), math.Sqrt2},
		{power(2999), power(2997), 2},
		{minus(power(3000), one), power(2998), 2},
		{power(2998), minus(power(3000), one), 0.5},
	} {
		checkRoot(t, c.a, c.b, c.want)
	}
}

// Promise 4.2: long numbers of all lengths, against the definition of the
// nearest float.
func TestRootIsNearest(t *testing.T) {
	m := mixer(9)
	for range 2000 {
		a := m.list(1 + m.below(3000))
		b := m.list(1 + m.below(3000))
		if got := ratio.Root(a, b); !isNearest(got, a, b, 2) {
			t.Errorf("Root(%v, %v) = %x", a, b, got)
		}
	}
}

// Promise 4.2: small numbers of all kinds, where many roots are exact.
func TestRootOfSmall(t *testing.T) {
	for a := uint64(1); a <= 100; a++ {
		for b := uint64(1); b <= 100; b++ {
			above, below := nat.Of(a), nat.Of(b)
			if got := ratio.Root(above, below); !isNearest(got, above, below, 2) {
				t.Errorf("Root(%d, %d) = %x", a, b, got)
			}
		}
	}
}
