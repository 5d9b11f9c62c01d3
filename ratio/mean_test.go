package ratio_test

import (
	"math"
	"testing"

	"bushel/nat"
	"bushel/ratio"
)

const (
	least = math.MinInt64
	most  = math.MaxInt64
)

// Promise 4.3.
func TestMean(t *testing.T) {
	one, three := 1.0, 3.0
	for _, c := range []struct {
		sum, n int64
		want   float64
	}{
		{6, 3, 2},
		{-3, 2, -1.5},
		{3, -2, -1.5},
		{-3, -2, 1.5},
		{1, 3, one / three},
		{-1, 3, -one / three},
		{1, -3, -one / three},
		{-1, -3, one / three},
		{0, 1, 0},
		{0, -1, 0},
		{0, most, 0},
		{0, least, 0},
		{0, 0, nan},
		{1, 0, infinity},
		{most, 0, infinity},
		{-1, 0, -infinity},
		{least, 0, -infinity},
		{most, 1, 0x1p63},
		{most, -1, -0x1p63},
		{least, 1, -0x1p63},
		{least, -1, 0x1p63},
		{least, 2, -0x1p62},
		{least, least, 1},
		{most, most, 1},
		{most, least, -1},
		{least, most, -1},
		{most - 1, most, 1},
		{1, least, -0x1p-63},
		{-1, least, 0x1p-63},
		{1, most, 0x1p-63},
		{-1, most, -0x1p-63},
		{1<<53 + 1, 1, 1 << 53},
		{1<<53 + 3, 1, 1<<53 + 4},
		{1<<54 + 2, 2, 1 << 53},
		{-1<<54 - 6, 2, -1<<53 - 4},
		{1<<54 + 3, 2, 1<<53 + 2},
		{-1<<54 - 1, 2, -1 << 53},
	} {
		checkFloat(t, ratio.Mean(c.sum, c.n), c.want, "Mean", c.sum, c.n)
	}
}

// wholes are numbers at which something changes, and mixed ones.
func wholes() []int64 {
	l := []int64{least, least + 1, -1 << 53, -7, -3, -2, -1, 1, 2, 3, 10, 1<<53 - 1, 1 << 53, 1<<53 + 1, 1<<62 + 1, most - 1, most}
	m := mixer(10)
	for range 40 {
		x := int64(m.word())<<32 | int64(m.word())
		l = append(l, x>>m.below(62)|1)
	}
	return l
}

// size is the absolute value as a list.
func size(x int64) []uint32 {
	if x < 0 {
		return nat.Add(nat.Of(uint64(-(x + 1))), nat.Of(1))
	}
	return nat.Of(uint64(x))
}

// Promise 4.3: the nearest float, for all signs.
func TestMeanIsNearest(t *testing.T) {
	for _, sum := range wholes() {
		for _, n := range wholes() {
			got := ratio.Mean(sum, n)
			if math.Signbit(got) != ((sum < 0) != (n < 0)) || !isNearest(math.Abs(got), size(sum), size(n), 1) {
				t.Errorf("Mean(%d, %d) = %x", sum, n, got)
			}
		}
	}
}

// Promise 4.3: numbers that floats hold are divided by the language with the same
// rounding.
func TestMeanOfFloats(t *testing.T) {
	m := mixer(11)
	for range 3000 {
		sum := int64(m.word())<<21>>m.below(52) - 1<<20
		n := int64(m.word())>>m.below(31) + 1
		checkFloat(t, ratio.Mean(sum, n), float64(sum)/float64(n), "Mean", sum, n)
	}
}

// lists returns lists of numbers whose sums fit: short and long ones, with
// numbers of all magnitudes.
func lists() [][]int64 {
	l := [][]int64{
		{0}, {1}, {-1}, {0, 0, 0}, {0, 1}, {-1, 1}, {1, 2, 3, 4}, {-5, 5, 5}, {7, 7, 8},
		{most}, {least}, {most, least}, {least, most, 1}, {most, 0}, {least, 0}, {most - 1, 1}, {least + 1, -1},
		{1<<53 + 1, 1<<53 + 1}, {1<<61 + 1, 1<<61 + 3, 1<<61 + 3},
	}
	m := mixer(12)
	for range 400 {
		part := make([]int64, 1+m.below(40))
		down := 6 + m.below(57)
		for i := range part {
			part[i] = (int64(m.word())<<32 | int64(m.word())) >> down
		}
		l = append(l, part)
	}
	return l
}

func sumOf(l []int64) int64 {
	var sum int64
	for _, x := range l {
		sum += x
	}
	return sum
}

// Promise 4.5: a mean lies between the floats of the minimum and of the maximum.
func TestMeanIsBetween(t *testing.T) {
	for _, l := range lists() {
		low, high := int64(most), int64(least)
		for _, x := range l {
			low, high = min(low, x), max(high, x)
		}
		mean := ratio.Mean(sumOf(l), int64(len(l)))
		if !(float64(low) <= mean && mean <= float64(high)) {
			t.Errorf("the mean of %v is %x", l, mean)
		}
	}
}
