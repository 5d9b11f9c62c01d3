// Package whole is layer 1: arithmetic on signed 64-bit integers that reports
// overflow instead of wrapping round. See shared/doc/01-whole.md.
package whole

import "math/bits"

// Add returns a + b and true, or 0 and false if the sum does not fit.
func Add(a, b int64) (int64, bool) {
	sum := a + b
	// A sum that wrapped round has a sign that neither operand has.
	if (a^sum)&(b^sum) < 0 {
		return 0, false
	}
	return sum, true
}

// Sub returns a - b and true, or 0 and false if the difference does not fit.
func Sub(a, b int64) (int64, bool) {
	difference := a - b
	// Only operands of unlike signs can overflow, and then a's sign is lost.
	if (a^b)&(a^difference) < 0 {
		return 0, false
	}
	return difference, true
}

// Mul returns a * b and true, or 0 and false if the product does not fit.
func Mul(a, b int64) (int64, bool) {
	high, low := bits.Mul64(Abs(a), Abs(b))
	if high != 0 {
		return 0, false
	}
	return signed(low, (a < 0) != (b < 0))
}

// signed returns the number with this absolute value and sign, and true; or 0
// and false if it does not fit.
func signed(size uint64, negative bool) (int64, bool) {
	// The negative numbers reach one further than the positive ones.
	if negative && size <= 1<<63 {
		return -int64(size), true
	}
	if !negative && size < 1<<63 {
		return int64(size), true
	}
	return 0, false
}

// Div returns the quotient of a and b rounded down, the remainder, and true; or
// 0, 0 and false if b is 0 or the quotient does not fit.
func Div(a, b int64) (int64, int64, bool) {
	if b == 0 || a == -1<<63 && b == -1 {
		return 0, 0, false
	}
	quotient, remainder := a/b, a%b
	// Go rounds towards 0; that is too high where the exact quotient is negative.
	if remainder != 0 && (remainder < 0) != (b < 0) {
		quotient--
		remainder += b
	}
	return quotient, remainder, true
}

// Abs returns the absolute value of a. It is unsigned because that of -2^63
// does not fit into an int64.
func Abs(a int64) uint64 {
	if a < 0 {
		return -uint64(a)
	}
	return uint64(a)
}

// Sum returns the sum of all numbers and true, or 0 and false if it does not
// fit.
func Sum(l []int64) (int64, bool) {
	// 128 bits, because intermediate results may leave the range and come back.
	var high, low uint64
	for _, x := range l {
		var carry uint64
		low, carry = bits.Add64(low, uint64(x), 0)
		high, _ = bits.Add64(high, uint64(x>>63), carry)
	}
	sum := int64(low)
	if int64(high) != sum>>63 {
		return 0, false
	}
	return sum, true
}

// Half returns (a + b) / 2 rounded down.
func Half(a, b int64) int64 {
	// Halving before adding never overflows; the halves that both lose make 1.
	return a>>1 + b>>1 + a&b&1
}

// Gcd returns the greatest common divisor of a and b, or 0 if both are 0.
func Gcd(a, b int64) uint64 {
	x, y := Abs(a), Abs(b)
	for y != 0 {
		x, y = y, x%y
	}
	return x
}

// Pow returns a to the power n and true, or 0 and false if n is negative or the
// power does not fit.
func Pow(a int64, n int) (int64, bool) {
	if n < 0 {
		return 0, false
	}
	power, ok := int64(1), true
	exponent := uint64(n)
	length := bits.Len64(exponent)
	// The exponent's bits are taken from the highest one on, so that each power
	// on the way is one of a with a smaller exponent: if it does not fit, then
	// the result does not fit either.
	for i := range length {
		if power, ok = Mul(power, power); !ok {
			return 0, false
		}
		if exponent>>(length-1-i)&1 == 0 {
			continue
		}
		if power, ok = Mul(power, a); !ok {
			return 0, false
		}
	}
	return power, true
}

// Root returns the largest integer whose square is at most a, and true; or 0
// and false if a is negative.
func Root(a int64) (int64, bool) {
	if a < 0 {
		return 0, false
	}
	var root uint64
	// Bit by bit, because a float does not hold every int64. The square of 32
	// bits fits into a uint64.
	for i := range 32 {
		next := root | 1<<(31-i)
		if next*next <= uint64(a) {
			root = next
		}
	}
	return int64(root), true
}
