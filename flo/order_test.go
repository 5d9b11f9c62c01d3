package flo_test

import (
	"math"
	"testing"

	"bushel/flo"
)

const (
	infinityKey      = 1<<63 + 0x7ff<<52
	minusInfinityKey = 1<<63 - 1 - 0x7ff<<52
	nanKey           = 1<<64 - 1
)

// Promise 3.1.
func TestKind(t *testing.T) {
	for _, c := range []struct {
		x    float64
		want int
	}{
		{0, 0},
		{minus0, 0},
		{infinity, 2},
		{-infinity, 2},
	} {
		if got := flo.Kind(c.x); got != c.want {
			t.Errorf("Kind(%x) = %d; want %d", c.x, got, c.want)
		}
	}
	for _, x := range positives() {
		if flo.Kind(x) != 1 || flo.Kind(-x) != 1 {
			t.Errorf("Kind(%x) = %d and Kind(%x) = %d; want 1", x, flo.Kind(x), -x, flo.Kind(-x))
		}
	}
	for _, x := range nans() {
		if got := flo.Kind(x); got != 3 {
			t.Errorf("Kind of NaN with the bits %x = %d; want 3", math.Float64bits(x), got)
		}
	}
}

// Promises 3.1 and 3.5: each pair of samples, by their places.
func TestOrder(t *testing.T) {
	l := increasing()
	for i, a := range l {
		for j, b := range l {
			if got := flo.Same(a, b); got != (i == j) {
				t.Errorf("Same(%x, %x) = %t", a, b, got)
			}
			if got := flo.Less(a, b); got != (i < j) {
				t.Errorf("Less(%x, %x) = %t", a, b, got)
			}
			if got := flo.Key(a) < flo.Key(b); got != (i < j) {
				t.Errorf("Key(%x) = %d and Key(%x) = %d", a, flo.Key(a), b, flo.Key(b))
			}
			checkFloat(t, flo.Least(a, b), l[min(i, j)], "Least", a, b)
			checkFloat(t, flo.Most(a, b), l[max(i, j)], "Most", a, b)
		}
	}
}

// Promise 3.1: floats of all magnitudes are in the order in which < has them.
func TestOrderOfMixed(t *testing.T) {
	l := mixed(1000)
	for i, a := range l {
		b := l[(i+1)%len(l)]
		if flo.Less(a, b) != (a < b) || flo.Less(b, a) != (b < a) || flo.Same(a, b) != (a == b) {
			t.Errorf("%x and %x: Less %t and %t, Same %t", a, b, flo.Less(a, b), flo.Less(b, a), flo.Same(a, b))
		}
		checkFloat(t, flo.Least(a, b), min(a, b), "Least", a, b)
		checkFloat(t, flo.Most(a, b), max(a, b), "Most", a, b)
	}
}

// Promises 3.1, 3.2 and 3.4: all NaN values are one, whatever their bits.
func TestNaNs(t *testing.T) {
	for _, a := range nans() {
		for _, b := range nans() {
			if !flo.Same(a, b) || flo.Less(a, b) {
				t.Errorf("NaNs: Same %t, Less %t; want true, false", flo.Same(a, b), flo.Less(a, b))
			}
			checkFloat(t, flo.Least(a, b), nan, "Least", a, b)
			checkFloat(t, flo.Most(a, b), nan, "Most", a, b)
		}
		for _, x := range increasing() {
			isNaN := x != x
			if flo.Same(a, x) != isNaN || flo.Same(x, a) != isNaN {
				t.Errorf("NaN with the bits %x: Same as %x is %t", math.Float64bits(a), x, !isNaN)
			}
			if flo.Less(x, a) == isNaN || flo.Less(a, x) {
				t.Errorf("NaN with the bits %x is not behind %x", math.Float64bits(a), x)
			}
			checkFloat(t, flo.Least(a, x), x, "Least", a, x)
			checkFloat(t, flo.Least(x, a), x, "Least", x, a)
			checkFloat(t, flo.Most(a, x), nan, "Most", a, x)
			checkFloat(t, flo.Most(x, a), nan, "Most", x, a)
		}
		if got := flo.Key(a); got != nanKey {
			t.Errorf("Key of NaN with the bits %x = %d; want %d", math.Float64bits(a), got, uint64(nanKey))
		}
		checkSplit(t, a, false, 0, 0)
		checkFloat(t, flo.Up(a), nan, "Up", a)
	}
}

// Promise 3.4: keys as the chapter counts them.
func TestKey(t *testing.T) {
	for _, c := range []struct {
		x    float64
		want uint64
	}{
		{0, 1 << 63},
		{smallest, 1<<63 + 1},
		{2 * smallest, 1<<63 + 2},
		{1000 * smallest, 1<<63 + 1000},
		{full - smallest, 1<<63 + 1<<52 - 1},
		{full, 1<<63 + 1<<52},
		{full + smallest, 1<<63 + 1<<52 + 1},
		{2 * full, 1<<63 + 2<<52},
		{1, 1<<63 + 1023<<52},
		{2, 1<<63 + 1024<<52},
		{3, 1<<63 + 1024<<52 + 1<<51},
		{largest, infinityKey - 1},
		{infinity, infinityKey},
		{minus0, 1<<63 - 1},
		{-smallest, 1<<63 - 2},
		{-1000 * smallest, 1<<63 - 1001},
		{-full, 1<<63 - 1 - 1<<52},
		{-1, 1<<63 - 1 - 1023<<52},
		{-largest, minusInfinityKey + 1},
		{-infinity, minusInfinityKey},
		{nan, nanKey},
	} {
		if got := flo.Key(c.x); got != c.want {
			t.Errorf("Key(%x) = %d; want %d", c.x, got, c.want)
		}
		got, ok := flo.From(c.want)
		checkFloat(t, got, c.x, "From", c.want)
		if !ok {
			t.Errorf("From(%d) = %x, false; want true", c.want, got)
		}
	}
}

// neighbours are floats whose next one is another finite float on the same side
// of the zeros, so that the library's way to the next one is the order's.
func neighbours() []float64 {
	l := mixed(2000)
	for _, x := range positives() {
		l = append(l, x, -x)
	}
	var found []float64
	for _, x := range l {
		if math.Abs(x) < largest && x != -smallest {
			found = append(found, x)
		}
	}
	return found
}

// Promise 3.4: the key increases by one for each following float, and each way
// back leads to the float.
func TestNeighbours(t *testing.T) {
	for _, x := range neighbours() {
		next := math.Nextafter(x, infinity)
		if flo.Key(next) != flo.Key(x)+1 {
			t.Errorf("Key(%x) = %d, but that of the next one, %x, is %d", x, flo.Key(x), next, flo.Key(next))
		}
		checkFloat(t, flo.Up(x), next, "Up", x)
		if !flo.Less(x, next) || flo.Less(next, x) || flo.Same(x, next) {
			t.Errorf("%x does not precede the next one, %x", x, next)
		}
		back, ok := flo.From(flo.Key(x))
		checkFloat(t, back, x, "From", flo.Key(x))
		if !ok {
			t.Errorf("From(Key(%x)) is false", x)
		}
	}
}

// Promise 3.4: integers that are no float's key, from both ends of the gaps.
func TestFromNoKey(t *testing.T) {
	for _, k := range []uint64{
		0, 1, 2, 1 << 32, 1 << 51, minusInfinityKey / 2, minusInfinityKey - 2, minusInfinityKey - 1,
		infinityKey + 1, infinityKey + 2, infinityKey + 1<<51, nanKey - 1<<32, nanKey - 2, nanKey - 1,
	} {
		if x, ok := flo.From(k); !identical(x, 0) || ok {
			t.Errorf("From(%d) = %x, %t; want 0, false", k, x, ok)
		}
	}
}

// Promise 3.4: From finds the floats at the gaps' edges and none in the gaps,
// and Key leads back to each integer that is a key.
func TestFromThenKey(t *testing.T) {
	m := mixer(4)
	keys := []uint64{minusInfinityKey, minusInfinityKey + 1, 1<<63 - 2, 1<<63 - 1, 1 << 63, 1<<63 + 1, infinityKey - 1, infinityKey, nanKey}
	for range 5000 {
		keys = append(keys, uint64(m.word())<<32|uint64(m.word()))
	}
	for _, k := range keys {
		isKey := minusInfinityKey <= k && k <= infinityKey || k == nanKey
		x, ok := flo.From(k)
		if ok != isKey || ok && flo.Key(x) != k || !ok && !identical(x, 0) {
			t.Errorf("From(%d) = %x, %t, whose Key is %d", k, x, ok, flo.Key(x))
		}
	}
}

// Promise 3.4.
func TestUp(t *testing.T) {
	for _, c := range []struct{ x, want float64 }{
		{-infinity, -largest},
		{-largest, -0x1.ffffffffffffep1023},
		{-1, -0x1.fffffffffffffp-1},
		{-full, -full + smallest},
		{-2 * smallest, -smallest},
		{-smallest, minus0},
		{minus0, 0},
		{0, smallest},
		{smallest, 2 * smallest},
		{full - smallest, full},
		{full, full + smallest},
		{0x1.fffffffffffffp-1, 1},
		{1, 0x1.0000000000001p0},
		{1<<53 - 1, 1 << 53},
		{1 << 53, 1<<53 + 2},
		{0x1.ffffffffffffep1023, largest},
		{largest, infinity},
		{infinity, nan},
		{nan, nan},
	} {
		checkFloat(t, flo.Up(c.x), c.want, "Up", c.x)
	}
}
