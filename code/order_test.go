package code_test

import (
	"bytes"
	"testing"

	"bushel/code"
	"bushel/flo"
)

// checkOrder holds promise 7.3 for each pair of values, given in increasing order
// and each one once: the encodings are in the same order, and none begins another.
func checkOrder[V any](t *testing.T, name string, encode func(V) []byte, l []V) {
	t.Helper()
	encodings := make([][]byte, len(l))
	for i, x := range l {
		encodings[i] = encode(x)
	}
	for i, a := range encodings {
		for j, b := range encodings {
			if got := code.Less(a, b); got != (i < j) {
				t.Errorf("Less(%s(%#v), %s(%#v)) = %t", name, l[i], name, l[j], got)
			}
			if got := precedes(a, b); got != (i < j) {
				t.Errorf("%s(%#v) is %d, and %s(%#v) is %d", name, l[i], a, name, l[j], b)
			}
			if i != j && bytes.HasPrefix(a, b) {
				t.Errorf("%s(%#v), %d, begins with %s(%#v), %d", name, l[i], a, name, l[j], b)
			}
		}
	}
}

// Promise 7.3: any two values of one kind.
func TestOrder(t *testing.T) {
	checkOrder(t, "U", code.U, unsigned())
	checkOrder(t, "I", code.I, signed())
	checkOrder(t, "F", code.F, floats())
	checkOrder(t, "T", code.T, texts())
}

// Promise 7.3: all pairs of small integers, and mixed pairs of all lengths.
func TestOrderOfIntegers(t *testing.T) {
	var small []int64
	for x := int64(-600); x <= 600; x++ {
		small = append(small, x)
	}
	checkOrder(t, "I", code.I, small)
	m := mixer(6)
	for range 20000 {
		a, b := m.word()>>(m.word()%64), m.word()>>(m.word()%64)
		if code.Less(code.U(a), code.U(b)) != (a < b) || code.Less(code.U(b), code.U(a)) != (b < a) {
			t.Errorf("U(%d) is %d, and U(%d) is %d", a, code.U(a), b, code.U(b))
		}
		c, d := int64(m.word())>>(m.word()%64), int64(m.word())>>(m.word()%64)
		if code.Less(code.I(c), code.I(d)) != (c < d) || code.Less(code.I(d), code.I(c)) != (d < c) {
			t.Errorf("I(%d) is %d, and I(%d) is %d", c, code.I(c), d, code.I(d))
		}
	}
}

// Promise 7.3: the order of floats is that of layer 3, NaN of all bits included.
func TestOrderOfFloats(t *testing.T) {
	l := append(floats(), nans()...)
	for _, a := range l {
		for _, b := range l {
			if code.Less(code.F(a), code.F(b)) != flo.Less(a, b) {
				t.Errorf("F(%x) is %d, and F(%x) is %d", a, code.F(a), b, code.F(b))
			}
			if bytes.Equal(code.F(a), code.F(b)) != flo.Same(a, b) {
				t.Errorf("F(%x) is %d, and F(%x) is %d", a, code.F(a), b, code.F(b))
			}
		}
	}
}

// Promise 7.3: what is encoded after another value has no part in the order of the
// first ones, and is read behind them.
func TestOrderOfPairs(t *testing.T) {
	var pairs [][]byte
	for _, s := range strung("\x00\x01\xff", 3) {
		for _, x := range []int64{-300, -1, 0, 300} {
			pairs = append(pairs, append(code.T(s), code.I(x)...))
			_, n, _ := code.GetT(pairs[len(pairs)-1])
			getI.check(t, pairs[len(pairs)-1][n:], x, len(code.I(x)))
		}
	}
	for _, a := range pairs {
		for _, b := range pairs {
			s, n, _ := code.GetT(a)
			o, k, _ := code.GetT(b)
			x, _, _ := code.GetI(a[n:])
			y, _, _ := code.GetI(b[k:])
			if want := s < o || s == o && x < y; code.Less(a, b) != want {
				t.Errorf("%q and %d: %d; %q and %d: %d", s, x, a, o, y, b)
			}
		}
	}
}
