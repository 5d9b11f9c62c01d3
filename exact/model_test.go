package exact_test

import (
	"math"
	"testing"

	"bushel/exact"
	"bushel/nat"
)

// model is a sum in the chapter's words. It keeps what is above 0 and what is
// below 0 apart, so that it need not look at signs while it adds.
type model struct {
	above, below []uint32
	flags        int
}

func modelOf(l ...float64) model {
	var m model
	for _, x := range l {
		m = m.with(x)
	}
	return m
}

func (m model) with(x float64) model {
	switch {
	case x != x:
		m.flags |= flagNaN
	case x > largest:
		m.flags |= flagInfinity
	case x < -largest:
		m.flags |= flagMinusInfinity
	case identical(x, minus0):
		m.flags |= flagMinus0
	case x < 0:
		m.flags |= flagOther
		m.below = nat.Add(m.below, units(-x))
	default:
		m.flags |= flagOther
		m.above = nat.Add(m.above, units(x))
	}
	return m
}

// units returns a finite float from 0 on as a number of units of 2^-1074. It
// takes the float's bits apart.
func units(x float64) []uint32 {
	m, e := significand(x)
	return shift(nat.Of(m), e+1074)
}

// significand returns m and e for which a finite x from 0 on is m * 2^e, with the
// smallest e there is. Infinity comes back as the number that would follow the
// largest float.
func significand(x float64) (uint64, int) {
	pattern := math.Float64bits(x)
	fraction, exponent := pattern&(1<<52-1), int(pattern>>52)
	if exponent == 0 {
		return fraction, -1074
	}
	return fraction | 1<<52, exponent - 1075
}

func shift(a []uint32, n int) []uint32 {
	shifted, ok := nat.Shl(a, n)
	if !ok {
		panic("no such shift")
	}
	return shifted
}

// total returns whether the total is below 0, and its absolute value.
func (m model) total() (bool, []uint32) {
	if nat.Cmp(m.above, m.below) < 0 {
		rest, _ := nat.Sub(m.below, m.above)
		return true, rest
	}
	rest, _ := nat.Sub(m.above, m.below)
	return false, rest
}

// encoding returns the encoding in the chapter's words.
func (m model) encoding() []byte {
	neg, total := m.total()
	flags := m.flags
	if neg {
		flags |= flagNegative
	}
	noughts := 0
	for noughts < len(total) && total[noughts] == 0 {
		noughts++
	}
	var words []uint32
	for i := range len(total) - noughts {
		words = append(words, total[len(total)-1-i])
	}
	return encoding(flags, noughts, words...)
}

// extreme returns the value and true where it is no rounded total.
func (m model) extreme() (float64, bool) {
	const both = flagInfinity | flagMinusInfinity
	_, total := m.total()
	switch {
	case m.flags&flagNaN != 0 || m.flags&both == both:
		return nan, true
	case m.flags&flagInfinity != 0:
		return infinity, true
	case m.flags&flagMinusInfinity != 0:
		return -infinity, true
	case len(total) > 0:
		return 0, false
	case m.flags == flagMinus0:
		return minus0, true
	}
	return 0, true
}

// isNearest reports whether x is the nearest float to the total divided by n,
// where the total is not 0. It needs no division: x is so if the quotient lies
// between the middles on either side, or on one of them if x is even.
func (m model) isNearest(x float64, n uint64) bool {
	neg, total := m.total()
	if x != x || math.Signbit(x) != neg {
		return false
	}
	x = math.Abs(x)
	digits, _ := significand(x)
	lowest, highest := 1, -1
	if digits%2 == 0 {
		lowest, highest = 0, 0
	}
	if x > 0 && compareMiddle(total, n, math.Nextafter(x, 0)) < lowest {
		return false
	}
	return x > largest || compareMiddle(total, n, x) <= highest
}

// compareMiddle holds total / n against the middle between x and the next float.
func compareMiddle(total []uint32, n uint64, x float64) int {
	m, e := significand(x)
	// The middle has half of the unit as its own.
	middle := shift(nat.Of(2*m+1), e+1074)
	return nat.Cmp(nat.Add(total, total), nat.Mul(middle, nat.Of(n)))
}

// checkValues holds Value and Mean against the model.
func checkValues(t *testing.T, s *exact.Sum, m model, about ...any) {
	t.Helper()
	if x, found := m.extreme(); found {
		checkFloat(t, s.Value(), x, "Value", about...)
	} else if x := s.Value(); !m.isNearest(x, 1) {
		t.Errorf("%v: Value is %x, which is not the nearest float", about, x)
	}
	for _, n := range []int64{1, 2, 3, 10, 1<<53 - 1, 1<<53 + 1, most - 1, most} {
		if x, found := m.extreme(); found {
			checkFloat(t, s.Mean(n), x, "Mean", n, about)
		} else if x := s.Mean(n); !m.isNearest(x, uint64(n)) {
			t.Errorf("%v: Mean(%d) is %x, which is not the nearest float", about, n, x)
		}
	}
}

// The tests rely on isNearest to refuse the neighbours: on a middle, just below
// and just above.
func TestIsNearest(t *testing.T) {
	for _, x := range positives() {
		next := math.Nextafter(x, infinity)
		if next > largest {
			continue
		}
		digits, _ := significand(x)
		for _, c := range []struct {
			m    model
			want bool
		}{
			{modelOf(x, next), digits%2 == 0},
			{modelOf(x, next, -smallest), true},
			{modelOf(x, next, smallest), false},
		} {
			// Half of each total is close to the middle.
			if c.m.isNearest(x, 2) != c.want || c.m.isNearest(next, 2) == c.want {
				t.Errorf("beside the middle of %x and %x, the nearest float is wrong", x, next)
			}
			if c.m.isNearest(-x, 2) || c.m.isNearest(nan, 2) || c.m.isNearest(infinity, 2) || c.m.isNearest(0, 2) {
				t.Errorf("%x, NaN, infinity or 0 is the nearest float to half of %x and %x", -x, x, next)
			}
		}
	}
	beyond := modelOf(largest, 0x1p970)
	if beyond.isNearest(largest, 1) || !beyond.isNearest(infinity, 1) || beyond.with(-smallest).isNearest(infinity, 1) {
		t.Error("beside the middle of the largest float and infinity, the nearest float is wrong")
	}
	if half := modelOf(smallest); !half.isNearest(0, 2) || half.isNearest(smallest, 2) || half.isNearest(minus0, 2) {
		t.Error("the nearest float to 2^-1075 is wrong")
	}
}
