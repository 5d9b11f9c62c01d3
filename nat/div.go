package nat

import "math/bits"

// Div returns a / b rounded down, the remainder, and true; or two empty lists
// and false if b is 0.
func Div(a, b []uint32) ([]uint32, []uint32, bool) {
	b = significant(b)
	if len(b) == 0 {
		return nil, nil, false
	}
	if Cmp(a, b) < 0 {
		return nil, Trim(a), true
	}
	if len(b) == 1 {
		quotient := Trim(a)
		remainder := divideByWord(quotient, b[0])
		return significant(quotient), Of(uint64(remainder)), true
	}
	// A divisor whose highest bit is set keeps the guesses of digits close.
	shift := bits.LeadingZeros32(b[len(b)-1])
	rest, divisor := raise(a, shift), raise(b, shift)[:len(b)]
	quotient := divideLong(rest, divisor)
	return significant(quotient), Shr(rest, shift), true
}

// divideByWord makes a its quotient by the divisor, and returns the remainder.
func divideByWord(a []uint32, divisor uint32) uint32 {
	var rest uint32
	for i := range len(a) {
		at := len(a) - 1 - i
		a[at], rest = bits.Div32(rest, a[at], divisor)
	}
	return rest
}

// divideLong makes rest its remainder by the divisor, and returns the quotient.
// It is long division with words as digits: the divisor has two or more and its
// highest bit set, and the highest words of rest are less than the divisor.
func divideLong(rest, divisor []uint32) []uint32 {
	quotient := make([]uint32, len(rest)-len(divisor))
	for i := range len(quotient) {
		at := len(quotient) - 1 - i
		part := rest[at : at+len(divisor)+1]
		digit := guess(part, divisor)
		if takeTimes(part, divisor, digit) {
			digit--
			giveBack(part, divisor)
		}
		quotient[at] = digit
	}
	return quotient
}

// guess returns the quotient's digit of a part that has one word more than the
// divisor. Because it looks at the highest words alone, it may be 1 too high.
func guess(part, divisor []uint32) uint32 {
	n := len(divisor)
	high, low := uint64(divisor[n-1]), uint64(divisor[n-2])
	head := uint64(part[n])<<wordBits | uint64(part[n-1])
	digit, left := head/high, head%high
	for digit>>wordBits != 0 || digit*low > left<<wordBits|uint64(part[n-2]) {
		digit--
		left += high
		// From here on the remainder outweighs whatever low makes.
		if left>>wordBits != 0 {
			break
		}
	}
	return uint32(digit)
}

// takeTimes takes digit times the divisor from part, and reports whether that
// was too much, which leaves part too low by 2^32 to the power of its length.
func takeTimes(part, divisor []uint32, digit uint32) bool {
	var carry uint64
	var borrow uint32
	for i := range len(divisor) {
		carry += uint64(divisor[i]) * uint64(digit)
		part[i], borrow = bits.Sub32(part[i], uint32(carry), borrow)
		carry >>= wordBits
	}
	last := len(divisor)
	part[last], borrow = bits.Sub32(part[last], uint32(carry), borrow)
	return borrow != 0
}

// giveBack adds the divisor to a part from which it was taken once too often.
// What is carried out of part is what takeTimes had borrowed.
func giveBack(part, divisor []uint32) {
	var carry uint32
	for i := range len(divisor) {
		part[i], carry = bits.Add32(part[i], divisor[i], carry)
	}
	part[len(divisor)] += carry
}
