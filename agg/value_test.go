package agg_test

import (
	"math"
	"testing"

	"bushel/agg"
	"bushel/api"
)

// checkValue fails if Value is not this float, to its last bit unless it is NaN.
func checkValue(t *testing.T, r api.Real, want float64) {
	t.Helper()
	got := agg.Value(r)
	if !defineEqual(got, want) || !math.IsNaN(want) && math.Float64bits(got) != math.Float64bits(want) {
		t.Errorf("Value(%v) is %x; want %x", r, got, want)
	}
}

// Promise 14.3: the Value of an encoding, whatever Min and Max are.
func TestValue(t *testing.T) {
	for _, x := range floats() {
		checkValue(t, api.Real{Sum: sumOf(x)}, x)
		checkValue(t, api.Real{Sum: sumOf(x), Min: 7, Max: -7}, x)
		checkValue(t, api.Real{Sum: sumOf(x), Min: nan, Max: nan}, x)
	}
	for _, c := range []struct {
		l    []float64
		want float64
	}{
		{nil, 0},
		{[]float64{1 << 53, 1, -1 << 53}, 1},
		{[]float64{0.1, 0.2, -0.3}, 0x1p-55},
		{[]float64{minus0, minus0}, minus0},
		{[]float64{minus0, 0}, 0},
		{[]float64{1, -1}, 0},
		{[]float64{largest, largest}, infinity},
		{[]float64{-largest, -largest}, -infinity},
		{[]float64{largest, largest, -largest}, largest},
		{[]float64{infinity, -largest}, infinity},
		{[]float64{infinity, -infinity}, nan},
		{[]float64{nan, 1}, nan},
	} {
		checkValue(t, api.Real{Sum: sumOf(c.l...), Min: 3, Max: 4}, c.want)
	}
	checkValue(t, api.Real{Sum: longestSum()}, infinity)
	checkValue(t, api.Real{Sum: units(2, 1)}, 0x1.00000001p-1042)
}

// Promise 14.3: bytes that are no encoding have the Value 0, and not -0.
func TestValueNone(t *testing.T) {
	for _, b := range noSums() {
		checkValue(t, api.Real{Sum: b}, 0)
		checkValue(t, api.Real{Sum: b, Min: 7, Max: 7}, 0)
		checkValue(t, api.Real{Sum: b, Min: minus0, Max: nan}, 0)
	}
	checkValue(t, api.Real{}, 0)
	checkValue(t, api.Real{Sum: append(sumOf(minus0), 1)}, 0)
	checkValue(t, api.Real{Sum: append(sumOf(nan), 0)}, 0)
	checkValue(t, api.Real{Sum: sumOf(1)[:6]}, 0)
}
