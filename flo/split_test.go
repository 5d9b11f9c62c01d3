package flo_test

import (
	"math"
	"strconv"
	"strings"
	"testing"

	"bushel/flo"
	"bushel/nat"
)

func checkSplit(t *testing.T, x float64, neg bool, m uint64, e int) {
	t.Helper()
	gotNeg, gotM, gotE := flo.Split(x)
	if gotNeg != neg || gotM != m || gotE != e {
		t.Errorf("Split(%x) = %t, %d, %d; want %t, %d, %d", x, gotNeg, gotM, gotE, neg, m, e)
	}
}

// Promise 3.2.
func TestSplit(t *testing.T) {
	for _, c := range []struct {
		x float64
		m uint64
		e int
	}{
		{1, 1, 0},
		{2, 1, 1},
		{3, 3, 0},
		{6, 3, 1},
		{0.5, 1, -1},
		{0.75, 3, -2},
		{0.1, 3602879701896397, -55},
		{1000000, 15625, 6},
		{1<<53 - 1, 1<<53 - 1, 0},
		{1 << 53, 1, 53},
		{1<<53 + 2, 1<<52 + 1, 1},
		{smallest, 1, -1074},
		{2 * smallest, 1, -1073},
		{3 * smallest, 3, -1074},
		{full - smallest, 1<<52 - 1, -1074},
		{full, 1, -1022},
		{full + smallest, 1<<52 + 1, -1074},
		{2*full - smallest, 1<<53 - 1, -1074},
		{2*full + 2*smallest, 1<<52 + 1, -1073},
		{0x1p1023, 1, 1023},
		{largest, 1<<53 - 1, 971},
	} {
		checkSplit(t, c.x, false, c.m, c.e)
		checkSplit(t, -c.x, true, c.m, c.e)
	}
}

// Promise 3.2: what is not finite, and the zeros, have a sign at the most.
func TestSplitWithoutDigits(t *testing.T) {
	checkSplit(t, 0, false, 0, 0)
	checkSplit(t, minus0, true, 0, 0)
	checkSplit(t, infinity, false, 0, 0)
	checkSplit(t, -infinity, true, 0, 0)
	for _, x := range nans() {
		checkSplit(t, x, false, 0, 0)
	}
}

// Promise 3.2: the library's text of a float as an integer times a power of two,
// made odd, is what Split returns.
func TestSplitAsText(t *testing.T) {
	for _, x := range append(mixed(2000), increasing()...) {
		if x == 0 || x != x || math.IsInf(x, 0) {
			continue
		}
		m, e := textParts(t, x)
		for m%2 == 0 {
			m, e = m/2, e+1
		}
		checkSplit(t, x, x < 0, m, e)
	}
}

func textParts(t *testing.T, x float64) (uint64, int) {
	t.Helper()
	digits, exponent, _ := strings.Cut(strconv.FormatFloat(math.Abs(x), 'b', -1, 64), "p")
	m, err := strconv.ParseUint(digits, 10, 64)
	if err != nil {
		t.Fatal(err)
	}
	e, err := strconv.Atoi(exponent)
	if err != nil {
		t.Fatal(err)
	}
	return m, e
}

// Promise 3.5: Join inverts Split for the finite floats and the zeros, also when
// the same number is handed over with more words and another exponent.
func TestJoinOfSplit(t *testing.T) {
	for _, x := range append(mixed(2000), increasing()...) {
		if x != x || math.IsInf(x, 0) {
			continue
		}
		neg, m, e := flo.Split(x)
		list := nat.Of(m)
		checkFloat(t, flo.Join(neg, list, e), x, "Join", neg, list, e)
		for _, shift := range []int{1, 31, 32, 33, 500} {
			longer, _ := nat.Shl(list, shift)
			longer = append(longer, 0, 0)
			checkFloat(t, flo.Join(neg, longer, e-shift), x, "Join", neg, longer, e-shift)
		}
	}
}
