package ratio_test

import (
	"math"
	"testing"

	"bushel/nat"
	"bushel/ratio"
)

func checkDev(t *testing.T, n, sum int64, squares []uint32, want float64) {
	t.Helper()
	checkFloat(t, ratio.Dev(n, sum, squares), want, "Dev", n, sum, short(squares))
	checkFloat(t, ratio.Dev(n, sum, with0s(squares)), want, "Dev", n, sum, short(squares), "with zero words")
}

// Promise 4.4: ordinary inputs.
func TestDev(t *testing.T) {
	three := 3.0
	for _, c := range []struct {
		n, sum  int64
		squares uint64
		want    float64
	}{
		{2, 4, 10, 1},
		{2, -4, 10, 1},
		{2, 0, 2, 1},
		{1, 0, 0, 0},
		{1, 5, 25, 0},
		{1, -5, 25, 0},
		{2, 1, 1, 0.5},
		{4, 10, 30, 0x1.1e3779b97f4a8p0},
		{8, 40, 232, 2},
		{3, 3, 5, math.Sqrt(2 / three)},
		{2, 0, 1, math.Sqrt2 / 2},
		{1, 1, 3, math.Sqrt2},
		{1, 0, math.MaxUint64, 0x1p32},
	} {
		checkDev(t, c.n, c.sum, nat.Of(c.squares), c.want)
	}
}

// Promise 4.4: there are no numbers.
func TestDevBelow1(t *testing.T) {
	for _, n := range []int64{0, -1, -2, least, least + 1} {
		for _, sum := range []int64{0, 1, -1, least, most} {
			for _, squares := range [][]uint32{nil, {0}, {1}, {5, 5}, power(999), power(1000), power(5000)} {
				checkDev(t, n, sum, squares, nan)
			}
		}
	}
}

// Promise 4.4: 1000 bits are not too many, and 1001 are.
func TestDevOfLongest(t *testing.T) {
	one := nat.Of(1)
	longest := minus(power(1000), one)
	checkDev(t, 1, 0, longest, 0x1p500)
	checkDev(t, 4, 0, longest, 0x1p499)
	checkDev(t, 2, 0, power(999), 0x1p499)
	checkDev(t, 1, 0, power(999), math.Ldexp(math.Sqrt2, 499))
	checkDev(t, 1, least, longest, 0x1p500)
	checkDev(t, most, least, longest, math.Ldexp(math.Sqrt2, 468))
	for _, squares := range [][]uint32{power(1000), nat.Add(power(1000), one), minus(power(1001), one), power(1024), power(8000)} {
		for _, n := range []int64{1, 2, most} {
			checkDev(t, n, 0, squares, nan)
			checkDev(t, n, least, squares, nan)
		}
	}
}

// Promise 4.4: the radicand is 0, and one unit above and below.
func TestDevNear0(t *testing.T) {
	for _, c := range []struct{ n, sum, number int64 }{
		{1, 1, 1},
		{1, -1, 1},
		{1, 1 << 53, 1 << 53},
		{1, most, most},
		{1, -most, most},
		{2, 6, 3},
		{3, -21, 7},
		{1000, 5000, 5},
		{most, most, 1},
		{most, -most, 1},
		{1 << 62, 1 << 62, 1},
		{1 << 62, least, 2},
		{1 << 31, least, 1 << 32},
	} {
		// All numbers are equal, up to the sign.
		number := size(c.number)
		squares := nat.Mul(size(c.n), nat.Mul(number, number))
		checkDev(t, c.n, c.sum, squares, 0)
		checkDev(t, c.n, c.sum, minus(squares, nat.Of(1)), nan)
		checkDev(t, c.n, c.sum, nil, nan)
		got := ratio.Dev(c.n, c.sum, nat.Add(squares, nat.Of(1)))
		if !isNearest(got, nat.Of(1), size(c.n), 2) {
			t.Errorf("Dev(%d, %d, squares of %d and one more) = %x", c.n, c.sum, c.number, got)
		}
	}
	// Of 3 numbers with the sum 4, the squares must make 5 1/3 at least.
	checkDev(t, 3, 4, nat.Of(5), nan)
	checkDev(t, 3, 4, nat.Of(6), math.Sqrt2/3)
	checkDev(t, 1, least, power(126), 0)
	checkDev(t, 1, least, minus(power(126), nat.Of(1)), nan)
	checkDev(t, 1, least, nat.Add(power(126), nat.Of(1)), 1)
	for _, n := range []int64{1, 2, most} {
		for _, nothing := range nothings() {
			checkDev(t, n, 0, nothing, 0)
			checkDev(t, n, 1, nothing, nan)
			checkDev(t, n, -1, nothing, nan)
		}
	}
}

// squaresOf returns the sum of the numbers' squares.
func squaresOf(l []int64) []uint32 {
	var squares []uint32
	for _, x := range l {
		squares = nat.Add(squares, nat.Mul(size(x), size(x)))
	}
	return squares
}

// checkDevIsNearest holds Dev against the definition of the nearest float, with
// the radicand worked out here.
func checkDevIsNearest(t *testing.T, n, sum int64, squares []uint32) {
	t.Helper()
	got := ratio.Dev(n, sum, squares)
	above, negative := nat.Mul(size(n), squares), nat.Mul(size(sum), size(sum))
	if nat.Cmp(above, negative) <= 0 {
		want := 0.0
		if nat.Cmp(above, negative) < 0 {
			want = nan
		}
		checkFloat(t, got, want, "Dev", n, sum, squares)
		return
	}
	if !isNearest(got, minus(above, negative), nat.Mul(size(n), size(n)), 2) {
		t.Errorf("Dev(%d, %d, %v) = %x", n, sum, squares, got)
	}
}

// Promise 4.4: of lists of numbers.
func TestDevOfLists(t *testing.T) {
	for _, l := range lists() {
		checkDevIsNearest(t, int64(len(l)), sumOf(l), squaresOf(l))
	}
}

// Promise 4.4: of arguments of all magnitudes, whether there are such numbers or
// not.
func TestDevIsNearest(t *testing.T) {
	m := mixer(13)
	for _, n := range wholes() {
		for _, sum := range append(wholes(), 0) {
			if n < 1 {
				continue
			}
			checkDevIsNearest(t, n, sum, m.list(1+m.below(1000)))
			checkDevIsNearest(t, n, sum, m.list(1+m.below(126)))
		}
	}
}

// Promise 4.5: if all numbers are equal, Dev is 0.
func TestDevOfEqual(t *testing.T) {
	for _, x := range append(wholes(), 0) {
		for _, n := range []int{1, 2, 3, 10, 200} {
			room := int64(most / n)
			if x > room || x < -room {
				x /= int64(n)
			}
			l := make([]int64, n)
			for i := range l {
				l[i] = x
			}
			checkDev(t, int64(n), sumOf(l), squaresOf(l), 0)
		}
	}
}
