package ratio_test

import (
	"math"
	"testing"

	"bushel/nat"
)

// significand returns m and e for which a finite x from 0 on is m * 2^e, with the
// smallest e there is. Infinity comes back as the number that would follow the
// largest float.
func significand(x float64) (uint64, int) {
	pattern := math.Float64bits(x)
	fraction, exponent := pattern&(1<<52-1), int(pattern>>52)
	if exponent == 0 {
		return fraction, -1074
	}
	return fraction | 1<<52, exponent - 1075
}

// middle returns m and e for which m * 2^e lies halfway between x and the next
// float.
func middle(x float64) (uint64, int) {
	m, e := significand(x)
	return 2*m + 1, e - 1
}

// compare holds the root of a / b against m * 2^e: it is the quotient itself for
// degree 1, and the square root for degree 2.
func compare(a, b []uint32, degree int, m uint64, e int) int {
	for range degree {
		b = nat.Mul(b, nat.Of(m))
	}
	if e < 0 {
		return nat.Cmp(shift(a, -e*degree), b)
	}
	return nat.Cmp(a, shift(b, e*degree))
}

// isNearest reports whether x is the nearest float to the root of a / b, which
// are not 0. It needs no division: x is so if the root lies between the middles
// on either side, or on one of them if the significand is even.
func isNearest(x float64, a, b []uint32, degree int) bool {
	if x != x || math.Signbit(x) {
		return false
	}
	m, _ := significand(x)
	lowest, highest := 1, -1
	if m%2 == 0 {
		lowest, highest = 0, 0
	}
	if x > 0 {
		m, e := middle(math.Nextafter(x, 0))
		if compare(a, b, degree, m, e) < lowest {
			return false
		}
	}
	if x <= largest {
		m, e := middle(x)
		return compare(a, b, degree, m, e) <= highest
	}
	return true
}

// The tests rely on isNearest to refuse the neighbours, on either side of each
// middle and on it.
func TestIsNearest(t *testing.T) {
	one := nat.Of(1)
	for _, x := range positives() {
		for _, degree := range []int{1, 2} {
			for _, c := range around(x, degree, nat.Of(5), 200) {
				if !isNearest(c.want, c.a, c.b, degree) || isNearest(c.other, c.a, c.b, degree) {
					t.Errorf("degree %d, %s the middle: %x should be the nearest float, and %x should not", degree, c.place, c.want, c.other)
				}
			}
		}
		if isNearest(-x, one, one, 1) || isNearest(x, one, one, 1) != (x == 1) {
			t.Errorf("%x or its opposite is the nearest float to 1", x)
		}
	}
	if isNearest(nan, one, one, 1) {
		t.Error("NaN is the nearest float to 1")
	}
}

// multiple returns two numbers of which the first one is (m * 2^e)^degree times
// the second one, which is factor or a power of two times factor.
func multiple(factor []uint32, degree int, m uint64, e int) ([]uint32, []uint32) {
	product := factor
	for range degree {
		product = nat.Mul(product, nat.Of(m))
	}
	if e < 0 {
		return product, shift(factor, -e*degree)
	}
	return shift(product, e*degree), factor
}

// spot is a quotient, the float that its root is rounded to, the float on the
// other side of the middle, and on which side of it the root lies.
type spot struct {
	a, b        []uint32
	want, other float64
	place       string
}

// around returns quotients whose roots are halfway between x and the next float,
// and just below and above. Both numbers are multiples of factor or close to one,
// and the greater fine is, the closer the latter roots are to the middle; from 64
// on there is no other middle on the way.
func around(x float64, degree int, factor []uint32, fine int) []spot {
	m, e := middle(x)
	a, b := multiple(factor, degree, m, e)
	next := math.Nextafter(x, infinity)
	even, odd := x, next
	if m/2%2 == 1 {
		even, odd = next, x
	}
	one := nat.Of(1)
	fineA, fineB := shift(a, fine), shift(b, fine)
	return []spot{
		{a, b, even, odd, "on"},
		{fineA, fineB, even, odd, "on"},
		{minus(fineA, one), fineB, x, next, "below"},
		{fineA, nat.Add(fineB, one), x, next, "below"},
		{nat.Add(fineA, one), fineB, next, x, "above"},
		{fineA, minus(fineB, one), next, x, "above"},
	}
}
