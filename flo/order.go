package flo

import "math"

const (
	// firstKey is the Key of 0. The keys of -0 and of what precedes it are below.
	firstKey = 1 << 63

	// lastKey is the Key of NaN. It is apart from the others, which end before it.
	lastKey = 1<<64 - 1
)

// Same reports whether a and b are equal in the order.
func Same(a, b float64) bool {
	return Key(a) == Key(b)
}

// Less reports whether a precedes b in the order.
func Less(a, b float64) bool {
	return Key(a) < Key(b)
}

// Least returns the one that comes first in the order.
func Least(a, b float64) float64 {
	if Less(b, a) {
		return b
	}
	return a
}

// Most returns the one that comes last in the order.
func Most(a, b float64) float64 {
	if Less(a, b) {
		return b
	}
	return a
}

// Key returns an integer that increases with the order: 2^63 for 0, one more for
// each following float and one less for each preceding one, and 2^64 - 1 for NaN.
func Key(x float64) uint64 {
	if math.IsNaN(x) {
		return lastKey
	}
	// The bits below the sign count the floats from a zero on, on either side.
	pattern := math.Float64bits(x)
	if math.Signbit(x) {
		return ^pattern
	}
	return pattern | firstKey
}

// From returns the float whose Key is k, and true; or 0 and false if there is
// none.
func From(k uint64) (float64, bool) {
	if k == lastKey {
		return math.NaN(), true
	}
	pattern := ^k
	if k >= firstKey {
		pattern = k &^ firstKey
	}
	x := math.Float64frombits(pattern)
	// The bits beyond those of the infinities are NaN's, which has one key alone.
	if math.IsNaN(x) {
		return 0, false
	}
	return x, true
}

// Up returns the next float in the order, or NaN for infinity and for NaN.
func Up(x float64) float64 {
	// No float has the key behind infinity's, nor the one behind NaN's, which
	// wraps round to 0; of all floats, only NaN is left for these two.
	next, ok := From(Key(x) + 1)
	if !ok {
		return math.NaN()
	}
	return next
}
