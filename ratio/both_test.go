package ratio_test

import (
	"testing"

	"bushel/nat"
)

// face is Quot or Root, for the tests that ask the same of both.
type face struct {
	degree int
	check  func(t *testing.T, a, b []uint32, want float64)

	// room is how many bits a factor of both numbers may have.
	room int
}

func faces() []face {
	return []face{{1, checkQuot, 900}, {2, checkRoot, 400}}
}

// factors returns numbers by which both numbers are multiplied.
func (f face) factors(m *mixer) [][]uint32 {
	return [][]uint32{{1}, {3}, {7, 0}, {0, 0, 1}, m.list(65), m.list(f.room)}
}

// Promises 4.1 and 4.2: halfway between two floats, for even and for odd
// significands and from 0 to infinity, and just below and above; at 0 the middle
// is 2^-1075, and at the largest float it is (2^54 - 1) * 2^970.
func TestAroundMiddles(t *testing.T) {
	m := mixer(3)
	for _, f := range faces() {
		for _, x := range floats(4, 100) {
			for _, factor := range f.factors(&m) {
				for _, fine := range []int{64, 65, f.room} {
					for _, c := range around(x, f.degree, factor, fine) {
						f.check(t, c.a, c.b, c.want)
					}
				}
			}
		}
	}
}

// Promises 4.1 and 4.2: floats come back exactly, also the smallest and the
// largest one.
func TestExact(t *testing.T) {
	m := mixer(5)
	for _, f := range faces() {
		for _, x := range floats(6, 100) {
			if x == 0 {
				continue
			}
			for _, factor := range f.factors(&m) {
				digits, e := significand(x)
				a, b := multiple(factor, f.degree, digits, e)
				f.check(t, a, b, x)
			}
		}
	}
}

// Promises 4.1 and 4.2: b = 0, a = 0, and both.
func TestOf0(t *testing.T) {
	for _, f := range faces() {
		for _, nothing := range nothings() {
			for _, a := range [][]uint32{{1}, {5, 0}, {0, 7}, power(2999)} {
				f.check(t, a, nothing, infinity)
				f.check(t, nothing, a, 0)
			}
			for _, other := range nothings() {
				f.check(t, nothing, other, nan)
			}
		}
	}
}

// Promises 4.1 and 4.2: 3000 bits are not too many, and 3001 are, whatever the
// other number is.
func TestOfLongest(t *testing.T) {
	one := nat.Of(1)
	longest := minus(power(3000), one)
	for _, f := range faces() {
		f.check(t, longest, longest, 1)
		f.check(t, longest, one, infinity)
		f.check(t, one, longest, 0)
		for _, long := range [][]uint32{power(3000), nat.Add(power(3000), one), minus(power(3001), one), power(3200), power(8000)} {
			for _, other := range [][]uint32{nil, {0}, one, longest, long} {
				f.check(t, long, other, nan)
				f.check(t, other, long, nan)
			}
		}
	}
}
