package whole_test

import (
	"math"
	"math/bits"
)

// wide is a signed 128-bit integer in two's complement. The tests hold the
// package's results against it: no operation below overflows for int64s.
type wide struct {
	high, low uint64
}

func widen(x int64) wide {
	return wide{uint64(x >> 63), uint64(x)}
}

func (a wide) plus(b wide) wide {
	low, carry := bits.Add64(a.low, b.low, 0)
	high, _ := bits.Add64(a.high, b.high, carry)
	return wide{high, low}
}

func (a wide) minus(b wide) wide {
	low, borrow := bits.Sub64(a.low, b.low, 0)
	high, _ := bits.Sub64(a.high, b.high, borrow)
	return wide{high, low}
}

func times(a, b int64) wide {
	high, low := bits.Mul64(uint64(a), uint64(b))
	// Read as unsigned, a negative number is 2^64 too high.
	if a < 0 {
		high -= uint64(b)
	}
	if b < 0 {
		high -= uint64(a)
	}
	return wide{high, low}
}

func (a wide) negative() bool {
	return int64(a.high) < 0
}

// narrow is what Add, Sub and Mul promise for an exact result.
func (a wide) narrow() (int64, bool) {
	if a.high == 0 && a.low <= math.MaxInt64 {
		return int64(a.low), true
	}
	if a.high == math.MaxUint64 && a.low > math.MaxInt64 {
		return int64(a.low), true
	}
	return 0, false
}

// numbers holds the ends of the range, the places where halves, squares and
// 32-bit parts change, and small numbers of either sign.
func numbers() []int64 {
	l := []int64{
		math.MinInt64, math.MinInt64 + 1, math.MinInt64 + 2,
		-1<<62 - 1, -1 << 62, -1<<62 + 1,
		-4611686014132420609, -3037000500, -3037000499,
		-1<<32 - 1, -1 << 32, -1<<32 + 1, -1<<31 - 1, -1 << 31, -1<<31 + 1,
		1<<31 - 1, 1 << 31, 1<<31 + 1, 1<<32 - 1, 1 << 32, 1<<32 + 1,
		3037000499, 3037000500, 4611686014132420609,
		1<<62 - 1, 1 << 62, 1<<62 + 1,
		math.MaxInt64 - 2, math.MaxInt64 - 1, math.MaxInt64,
		-1000003, -720720, -1000, 1000, 720720, 1000003,
	}
	for x := int64(-16); x <= 16; x++ {
		l = append(l, x)
	}
	return l
}
