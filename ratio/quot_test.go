package ratio_test

import (
	"math"
	"strconv"
	"strings"
	"testing"

	"bushel/nat"
	"bushel/ratio"
)

// checkQuot holds Quot against a float, with either sign, and with trailing zero
// words.
func checkQuot(t *testing.T, a, b []uint32, want float64) {
	t.Helper()
	checkFloat(t, ratio.Quot(false, a, b), want, "Quot", false, short(a), short(b))
	checkFloat(t, ratio.Quot(true, a, b), math.Copysign(want, -1), "Quot", true, short(a), short(b))
	checkFloat(t, ratio.Quot(false, with0s(a), with0s(b)), want, "Quot", false, short(a), short(b), "with zero words")
}

// Promise 4.1: ordinary inputs.
func TestQuot(t *testing.T) {
	one, three, ten := 1.0, 3.0, 10.0
	for _, c := range []struct {
		a, b uint64
		want float64
	}{
		{1, 1, 1},
		{1, 2, 0.5},
		{6, 3, 2},
		{6, 4, 1.5},
		{1, 3, one / three},
		{2, 3, 2 / three},
		{10, 3, ten / three},
		{1, 10, 0.1},
		{3, 10, 0.3},
		{22, 7, 22.0 / 7.0},
		{1e15, 1, 1e15},
		{1, 1 << 63, 0x1p-63},
		{1<<53 + 1, 1, 1 << 53},
		{1<<53 + 3, 1, 1<<53 + 4},
		{1<<53 + 1, 2, 1 << 52},
		{1<<53 + 3, 2, 1<<52 + 2},
		{1<<54 - 1, 1, 1 << 54},
		{1<<54 - 1, 2, 1 << 53},
		{1<<54 - 3, 2, 1<<53 - 2},
		{math.MaxUint64, 1, 0x1p64},
		{math.MaxUint64, math.MaxUint64, 1},
		{math.MaxUint64 - 1, math.MaxUint64, 1},
		{math.MaxUint64, 3, 0x1.5555555555555p62},
		{1, math.MaxUint64, 0x1p-64},
	} {
		checkQuot(t, nat.Of(c.a), nat.Of(c.b), c.want)
	}
}

// Promise 4.1: a quotient of two floats is rounded once by the language, too.
func TestQuotOfFloats(t *testing.T) {
	l := floats(1, 300)
	for i, x := range l {
		for _, y := range []float64{l[(i+1)%len(l)], l[(i*7)%len(l)], l[len(l)-1-i], x} {
			if x == 0 || y == 0 {
				continue
			}
			a, e := significand(x)
			b, f := significand(y)
			above, below := nat.Of(a), nat.Of(b)
			if e > f {
				above = shift(above, e-f)
			} else {
				below = shift(below, f-e)
			}
			checkQuot(t, above, below, x/y)
		}
	}
}

// Promise 4.1: a quotient by a power of ten is a number with a point, which the
// library rounds once.
func TestQuotAsText(t *testing.T) {
	m := mixer(2)
	for zeros := 0; zeros <= 900; zeros += 4 {
		ten, ok := nat.Read("1" + strings.Repeat("0", zeros))
		if !ok {
			t.Fatal(zeros)
		}
		for _, length := range []int{1, 30, 54, 64, 200, 1000, 3000} {
			a := m.list(length)
			want, err := strconv.ParseFloat(nat.Text(a)+"e-"+strconv.Itoa(zeros), 64)
			if err != nil && !math.IsInf(want, 0) {
				t.Fatal(err)
			}
			checkQuot(t, a, ten, want)
		}
	}
}

// Promise 4.1: the ends of what floats hold, in numbers that are easy to read.
func TestQuotAtEnds(t *testing.T) {
	one := nat.Of(1)
	far := shift(nat.Of(1<<54-1), 970)
	for _, c := range []struct {
		a, b []uint32
		want float64
	}{
		{one, power(1074), smallest},
		{nat.Of(2), power(1075), smallest},
		{one, power(1075), 0},
		{nat.Of(3), power(1076), smallest},
		{one, minus(power(1075), one), smallest},
		{one, nat.Add(power(1075), one), 0},
		{nat.Add(power(1900), one), power(2975), smallest},
		{minus(power(1900), one), power(2975), 0},
		{nat.Of(3), power(1075), 2 * smallest},
		{one, power(1076), 0},
		{one, power(2999), 0},
		{one, power(1022), full},
		{minus(power(53), one), power(1075), full},
		{minus(power(52), one), power(1074), full - smallest},
		{shift(nat.Of(1<<53-1), 971), one, largest},
		{far, one, infinity},
		{minus(far, one), one, largest},
		{nat.Add(far, one), one, infinity},
		{shift(far, 900), power(900), infinity},
		{minus(shift(far, 900), one), power(900), largest},
		{shift(far, 900), nat.Add(power(900), one), largest},
		{power(1023), one, 0x1p1023},
		{power(1024), one, infinity},
		{power(2999), one, infinity},
		{power(2999), power(1976), 0x1p1023},
		{power(2999), power(1975), infinity},
		{power(2999), power(2998), 2},
		{minus(power(3000), one), power(2999), 2},
		{power(2999), minus(power(3000), one), 0.5},
	} {
		checkQuot(t, c.a, c.b, c.want)
	}
}

// Promise 4.1: long numbers of all lengths, against the definition of the
// nearest float.
func TestQuotIsNearest(t *testing.T) {
	m := mixer(5)
	for range 3000 {
		a := m.list(1 + m.below(3000))
		b := m.list(1 + m.below(3000))
		if got := ratio.Quot(false, a, b); !isNearest(got, a, b, 1) {
			t.Errorf("Quot(false, %v, %v) = %x", a, b, got)
		}
		// Quotients of so unlike numbers are often beyond the floats' ends; these
		// are not.
		near := m.list(max(1, nat.Bits(a)-m.below(900)))
		if got := ratio.Quot(false, a, near); !isNearest(got, a, near, 1) {
			t.Errorf("Quot(false, %v, %v) = %x", a, near, got)
		}
	}
}
