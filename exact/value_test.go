package exact_test

import (
	"math"
	"testing"

	"bushel/exact"
)

// checkTotal holds Total, and the Value of a sum, against a float, and the
// opposites of the elements against its opposite.
func checkTotal(t *testing.T, l []float64, want float64) {
	t.Helper()
	checkFloat(t, exact.Total(l), want, "Total", l)
	checkFloat(t, sumOf(t, l...).Value(), want, "Value", l)
	if want == 0 {
		return
	}
	var opposite []float64
	for _, x := range l {
		opposite = append(opposite, -x)
	}
	checkFloat(t, exact.Total(opposite), -want, "Total", opposite)
	checkFloat(t, sumOf(t, opposite...).Value(), -want, "Value", opposite)
}

// Promise 5.2: ordinary totals, and those that the operator + gets wrong.
func TestTotal(t *testing.T) {
	for _, c := range []struct {
		l    []float64
		want float64
	}{
		{[]float64{1}, 1},
		{[]float64{1, 2, 3}, 6},
		{[]float64{0.5, -2}, -1.5},
		{[]float64{1 << 53, 1, -1 << 53}, 1},
		{[]float64{0.1, 0.2, -0.3}, 0x1p-55},
		{[]float64{0.1, 0.1, 0.1, 0.1, 0.1, 0.1, 0.1, 0.1, 0.1, 0.1}, 1},
		{[]float64{1e100, 1, -1e100}, 1},
		{[]float64{1 << 53, 1, 1}, 1<<53 + 2},
		{[]float64{1, smallest, -1}, smallest},
		{[]float64{largest, smallest, -largest}, smallest},
		{[]float64{largest, largest, -largest}, largest},
		{[]float64{1, minus0}, 1},
		{[]float64{largest}, largest},
		{[]float64{smallest}, smallest},
	} {
		checkTotal(t, c.l, c.want)
	}
}

// Promise 5.2: zeros. A 0 or numbers that cancel make 0, and -0 alone makes -0.
func TestValueOfZeros(t *testing.T) {
	for _, c := range []struct {
		l    []float64
		want float64
	}{
		{nil, 0},
		{[]float64{}, 0},
		{[]float64{0}, 0},
		{[]float64{0, 0}, 0},
		{[]float64{minus0}, minus0},
		{[]float64{minus0, minus0, minus0}, minus0},
		{[]float64{minus0, 0}, 0},
		{[]float64{0, minus0}, 0},
		{[]float64{1, -1}, 0},
		{[]float64{-1, 1}, 0},
		{[]float64{minus0, 1, -1}, 0},
		{[]float64{-1, 1, minus0}, 0},
		{[]float64{-largest, largest}, 0},
		{[]float64{-smallest, smallest}, 0},
	} {
		checkFloat(t, exact.Total(c.l), c.want, "Total", c.l)
		checkFloat(t, sumOf(t, c.l...).Value(), c.want, "Value", c.l)
		for _, n := range []int64{1, 2, most} {
			checkFloat(t, sumOf(t, c.l...).Mean(n), c.want, "Mean", n, c.l)
		}
	}
}

// Promise 5.2: NaN, both infinities and one infinity, with and without finite
// numbers.
func TestValueOfInfinities(t *testing.T) {
	for _, finite := range [][]float64{nil, {0}, {minus0}, {1}, {-1}, {largest, largest}, {-largest, -largest}, {1, -1}} {
		for _, c := range []struct {
			l    []float64
			want float64
		}{
			{[]float64{nan}, nan},
			{[]float64{infinity}, infinity},
			{[]float64{-infinity}, -infinity},
			{[]float64{infinity, infinity}, infinity},
			{[]float64{-infinity, -infinity}, -infinity},
			{[]float64{infinity, -infinity}, nan},
			{[]float64{-infinity, infinity}, nan},
			{[]float64{nan, infinity}, nan},
			{[]float64{-infinity, nan}, nan},
			{[]float64{infinity, -infinity, nan}, nan},
		} {
			for _, l := range [][]float64{append(c.l, finite...), append(append([]float64{}, finite...), c.l...)} {
				checkFloat(t, exact.Total(l), c.want, "Total", l)
				checkFloat(t, sumOf(t, l...).Value(), c.want, "Value", l)
				for _, n := range []int64{1, 2, most} {
					checkFloat(t, sumOf(t, l...).Mean(n), c.want, "Mean", n, l)
				}
				for _, n := range []int64{0, -1, least} {
					checkFloat(t, sumOf(t, l...).Mean(n), nan, "Mean", n, l)
				}
			}
		}
	}
}

// Promise 5.2: halfway between two floats the even significand is taken, and
// just below and above the nearer float; beyond the largest one there is a middle
// to infinity.
func TestValueHalfway(t *testing.T) {
	for _, x := range positives() {
		next := math.Nextafter(x, infinity)
		gap := x - math.Nextafter(x, 0)
		if next <= largest {
			gap = next - x
		}
		if gap == smallest {
			// No total lies between the two.
			continue
		}
		half := gap / 2
		even := x
		if digits, _ := significand(x); digits%2 == 1 {
			even = next
		}
		checkTotal(t, []float64{x, half}, even)
		checkTotal(t, []float64{half, half / 2, x, -half / 2}, even)
		checkTotal(t, []float64{x, half, -smallest}, x)
		checkTotal(t, []float64{smallest, half, x}, next)
	}
}

// Promise 5.2: totals beyond the largest float, up to the longest one.
func TestValueBeyondLargest(t *testing.T) {
	checkTotal(t, []float64{largest, 0x1p970}, infinity)
	checkTotal(t, []float64{largest, 0x1p970, -smallest}, largest)
	checkTotal(t, []float64{largest, 0x1p969}, largest)
	checkTotal(t, []float64{largest, smallest}, largest)
	checkTotal(t, []float64{largest, largest}, infinity)
	checkTotal(t, []float64{0x1p1023, 0x1p1023}, infinity)
	checkTotal(t, []float64{0x1p1023, 0x1p1023, -0x1p970}, infinity)
	checkTotal(t, []float64{0x1p1023, 0x1p1023, -0x1p971}, largest)
	checkFloat(t, read(t, longest(flagOther)).Value(), infinity, "Value of the longest total")
	checkFloat(t, read(t, longest(flagOther|flagNegative)).Value(), -infinity, "Value of the longest total below 0")
}

// Promise 5.2: no float is rounded that is alone, and totals near 2^-1074 are
// floats, too.
func TestValueIsExact(t *testing.T) {
	for _, x := range all() {
		checkFloat(t, exact.Total([]float64{x}), x, "Total", x)
		checkFloat(t, sumOf(t, x).Mean(1), x, "Mean of", x)
	}
	for i := range 100 {
		for j := range 100 {
			x, y := float64(i)*smallest, -float64(j)*smallest
			checkFloat(t, exact.Total([]float64{x, y}), float64(i-j)*smallest, "Total", x, y)
		}
	}
}

// checkMean holds the Mean of the elements' sum against a float, also for their
// opposites.
func checkMean(t *testing.T, l []float64, n int64, want float64) {
	t.Helper()
	var opposite []float64
	for _, x := range l {
		opposite = append(opposite, -x)
	}
	checkFloat(t, sumOf(t, l...).Mean(n), want, "Mean", n, l)
	checkFloat(t, sumOf(t, opposite...).Mean(n), -want, "Mean", n, opposite)
}

// Promise 5.2: ordinary means, means with one rounding, and those at the ends of
// the floats and of an int64.
func TestMean(t *testing.T) {
	one, three := 1.0, 3.0
	for _, c := range []struct {
		l    []float64
		n    int64
		want float64
	}{
		{[]float64{1}, 1, 1},
		{[]float64{1, 2}, 2, 1.5},
		{[]float64{1}, 3, one / three},
		{[]float64{0.1, 0.2, 0.3}, 3, 0.2},
		{[]float64{1, 2, 3, minus0}, 4, 1.5},
		// 2^53 + 1 is three times a float, and 2^53 is not.
		{[]float64{1 << 53, 1}, 3, 3002399751580331},
		{[]float64{1 << 53, 1}, 1, 1 << 53},
		{[]float64{1 << 53, 3}, 1, 1<<53 + 4},
		{[]float64{1 << 53, 1}, 2, 1 << 52},
		{[]float64{1 << 53, 3}, 2, 1<<52 + 2},
		{[]float64{largest, largest}, 1, infinity},
		{[]float64{largest, largest}, 2, largest},
		{[]float64{largest, largest, largest}, 2, infinity},
		{[]float64{largest, 0x1p970}, 1, infinity},
		{[]float64{largest, 0x1p970, -smallest}, 1, largest},
		{[]float64{largest, largest, 0x1p971}, 2, infinity},
		{[]float64{largest, largest, 0x1p971, -smallest}, 2, largest},
		{[]float64{smallest}, 1, smallest},
		{[]float64{2 * smallest}, 2, smallest},
		{[]float64{2 * smallest}, 3, smallest},
		{[]float64{3 * smallest}, 2, 2 * smallest},
		{[]float64{5 * smallest}, 2, 2 * smallest},
		{[]float64{7 * smallest}, 2, 4 * smallest},
		{[]float64{3 * smallest}, 4, smallest},
		{[]float64{0x1p63, -1}, most, 1},
		{[]float64{0x1p63}, most, 1},
		{[]float64{1}, most, 0x1p-63},
		// 2^63 - 1 leaves a quotient just above that by 2^63.
		{[]float64{0x1p-1012}, most, smallest},
		{[]float64{0x1p-1011}, most, smallest},
		{[]float64{largest}, most, 0x1.fffffffffffffp960},
	} {
		checkMean(t, c.l, c.n, c.want)
	}
	checkFloat(t, read(t, longest(flagOther)).Mean(1), infinity, "Mean of the longest total", 1)
	checkFloat(t, read(t, longest(flagOther)).Mean(most), infinity, "Mean of the longest total", most)
}

// Promise 5.2: a mean that is too small for a float is a zero with the total's
// sign, as the rounding mode has it.
func TestMeanTooSmall(t *testing.T) {
	for _, c := range []struct {
		x float64
		n int64
	}{
		{smallest, 2}, {smallest, 3}, {smallest, most}, {2 * smallest, 5}, {2 * smallest, 4}, {0x1p-1054, 1 << 21}, {0x1p-1013, most},
	} {
		checkMean(t, []float64{c.x}, c.n, 0)
	}
}

// checkMean's opposite of 0 has to be -0.
func TestOppositeOf0(t *testing.T) {
	zero := 0.0
	if !identical(-zero, minus0) {
		t.Error("the opposite of 0 is not -0")
	}
}

// Promise 5.2: n below 1, for all sums.
func TestMeanBelow1(t *testing.T) {
	for _, x := range all() {
		for _, n := range []int64{0, -1, -2, least, least + 1} {
			checkFloat(t, sumOf(t, x).Mean(n), nan, "Mean", n, x)
		}
	}
	for _, n := range []int64{0, -1, least} {
		checkFloat(t, exact.New().Mean(n), nan, "Mean of an empty sum", n)
	}
}

// Promise 5.2: the nearest float for sums of mixed floats and for long totals.
func TestValueIsNearest(t *testing.T) {
	m := mixer(3)
	for range 300 {
		l := m.floats(1+m.below(30), m.below(8) == 0)
		checkValues(t, sumOf(t, l...), modelOf(l...), l)
	}
	for range 300 {
		// Close numbers of unlike signs leave few bits.
		x := m.finite()
		l := []float64{x, -math.Nextafter(x, 0), smallest * float64(m.below(9)), m.float(), -x / 4, x / 4}
		checkValues(t, sumOf(t, l...), modelOf(l...), l)
	}
	for range 300 {
		l := []float64{m.finite(), m.finite()}
		s, want := sumOf(t, l...), modelOf(l...)
		for range m.below(60) {
			if !s.Join(s) {
				t.Fatal("a sum could not be doubled")
			}
			want.above, want.below = shift(want.above, 1), shift(want.below, 1)
		}
		checkValues(t, s, want, l, "doubled")
	}
}

// Promise 5.2: Value and Mean change nothing.
func TestAskedTwice(t *testing.T) {
	for _, x := range all() {
		s := sumOf(t, x, 0.1)
		for range 2 {
			checkValues(t, s, modelOf(x, 0.1), x, 0.1)
			checkBytes(t, s, modelOf(x, 0.1).encoding(), x, 0.1)
		}
	}
}
