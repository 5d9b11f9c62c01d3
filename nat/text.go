package nat

import "slices"

const (
	// maxDigits is how many digits Read takes.
	maxDigits = 1000

	// A word holds every number of chunkDigits digits.
	chunkDigits = 9
	chunk       = 1_000_000_000
)

// Text returns the decimal digits of the number without leading zeros.
func Text(a []uint32) string {
	rest := Trim(a)
	if len(rest) == 0 {
		return "0"
	}
	var digits []byte
	for len(rest) > 0 {
		part := divideByWord(rest, chunk)
		rest = significant(rest)
		for range chunkDigits {
			digits = append(digits, byte('0'+part%10))
			part /= 10
		}
	}
	// The lowest digit comes first here, so the last chunk's leading zeros end it.
	for digits[len(digits)-1] == '0' {
		digits = digits[:len(digits)-1]
	}
	slices.Reverse(digits)
	return string(digits)
}

// Read returns the number whose Text is s, and true; or an empty list and false
// if there is none or s has more than 1000 digits.
func Read(s string) ([]uint32, bool) {
	if s == "" || len(s) > maxDigits || s[0] == '0' && s != "0" {
		return nil, false
	}
	var number []uint32
	for i := range len(s) {
		if s[i] < '0' || s[i] > '9' {
			return nil, false
		}
		number = appendDigit(number, uint32(s[i]-'0'))
	}
	return number, true
}

// appendDigit makes a ten times as large, and adds the digit. What it returns
// stays normalized.
func appendDigit(a []uint32, digit uint32) []uint32 {
	carry := uint64(digit)
	for i := range len(a) {
		carry += uint64(a[i]) * 10
		a[i] = uint32(carry)
		carry >>= wordBits
	}
	if carry != 0 {
		a = append(a, uint32(carry))
	}
	return a
}
