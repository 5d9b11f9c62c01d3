package code_test

import (
	"bytes"
	"slices"
	"testing"

	"bushel/api"
	"bushel/flo"
)

// oracle answers what a Get function must, from the set of the encodings alone:
// invert returns a value, and the bytes are an encoding if they are the value's.
type oracle[V any] struct {
	define func(V) []byte
	invert func([]byte) V
	most   int

	// known keeps what continues found out, which is slow.
	known map[string]bool
}

// bigEndian returns the integer with these bytes; bits beyond 64 are lost.
func bigEndian(b []byte) uint64 {
	var x uint64
	for _, y := range b {
		x = x*256 + uint64(y)
	}
	return x
}

func oracleU() oracle[uint64] {
	return oracle[uint64]{defineU, func(b []byte) uint64 { return bigEndian(b[1:]) }, 9, map[string]bool{}}
}

func oracleI() oracle[int64] {
	return oracle[int64]{defineI, func(b []byte) int64 {
		rest := slices.Clone(b[1:])
		if b[0] > 8 {
			return int64(bigEndian(rest))
		}
		for i := range rest {
			rest[i] = 255 - rest[i]
		}
		return -1 - int64(bigEndian(rest))
	}, 9, map[string]bool{}}
}

func oracleF() oracle[float64] {
	return oracle[float64]{defineF, func(b []byte) float64 {
		x, _ := flo.From(bigEndian(b))
		return x
	}, 8, map[string]bool{}}
}

// find returns the value whose encoding is at the beginning of b.
func (o oracle[V]) find(b []byte) (V, int, bool) {
	for n := 1; n <= min(len(b), o.most); n++ {
		if x := o.invert(b[:n]); bytes.Equal(o.define(x), b[:n]) {
			return x, n, true
		}
	}
	var none V
	return none, 0, false
}

// continues reports whether b is a proper prefix of an encoding.
func (o oracle[V]) continues(b []byte) bool {
	// If it is one, then so is all that it begins with.
	if len(b) > 0 && !o.continues(b[:len(b)-1]) {
		return false
	}
	found, ok := o.known[string(b)]
	if !ok {
		found = o.search(b)
		o.known[string(b)] = found
	}
	return found
}

// search looks for an encoding that begins with b and is longer. If there is one,
// there is one that goes on with some byte and then with bytes 0 alone or 255
// alone.
func (o oracle[V]) search(b []byte) bool {
	for next := range 256 {
		for _, rest := range []byte{0, 255} {
			longer := append(slices.Clone(b), byte(next))
			for len(longer) < o.most {
				longer = append(longer, rest)
			}
			if _, n, ok := o.find(longer); ok && n > len(b) {
				return true
			}
		}
	}
	return false
}

// holds fails if the Get function does not answer for b as the oracle.
func (o oracle[V]) holds(t *testing.T, d decoder[V], b []byte) {
	t.Helper()
	if x, n, ok := o.find(b); ok {
		d.check(t, b, x, n)
	} else if o.continues(b) {
		d.refuses(t, b, api.ErrShort)
	} else {
		d.refuses(t, b, api.ErrForm)
	}
}

// holdsNear does this for all strings of one byte, for all of two, and for the
// encodings of l with one byte changed, some bytes left out, or some appended.
func (o oracle[V]) holdsNear(t *testing.T, d decoder[V], l []V) {
	t.Helper()
	o.holds(t, d, nil)
	for x := range 256 {
		o.holds(t, d, []byte{byte(x)})
		for y := range 256 {
			o.holds(t, d, []byte{byte(x), byte(y)})
		}
	}
	for _, x := range l {
		b := o.define(x)
		for i := range b {
			for _, y := range []byte{0, 1, 7, 8, 9, 14, 15, 16, 17, 18, 127, 128, 239, 240, 241, 254, 255, b[i] + 1, b[i] - 1, 255 - b[i]} {
				other := slices.Clone(b)
				other[i] = y
				o.holds(t, d, other)
				o.holds(t, d, other[:i+1])
				o.holds(t, d, append(other, y, 0))
			}
			o.holds(t, d, slices.Delete(slices.Clone(b), i, i+1))
			o.holds(t, d, slices.Insert(slices.Clone(b), i, 0))
		}
	}
}

// Promise 7.2: whatever is given.
func TestGetAgainstOracle(t *testing.T) {
	oracleU().holdsNear(t, getU, thinned(unsigned()))
	oracleI().holdsNear(t, getI, thinned(signed()))
	oracleF().holdsNear(t, getF, thinned(floats()))
}

// thinned keeps both ends of l, and every fourth element.
func thinned[V any](l []V) []V {
	var kept []V
	for i, x := range l {
		if i%4 == 0 || i == len(l)-1 {
			kept = append(kept, x)
		}
	}
	return kept
}

// Promise 7.2: GetT of all short strings of the bytes that matter. Of each string,
// an encoding of no more of these bytes is at the beginning, or may begin with it.
func TestGetTAgainstAll(t *testing.T) {
	const letters = "\x00\x01\x02\xff"
	encodings, prefixes := map[string]string{}, map[string]int{}
	for _, s := range strung(letters, 6) {
		b := string(defineT(s))
		encodings[b] = s
		for i := range b {
			prefixes[b[:i]]++
		}
	}
	for _, b := range strung(letters, 6) {
		length := -1
		for n := range len(b) + 1 {
			if _, ok := encodings[b[:n]]; ok {
				length = n
			}
		}
		switch {
		case length >= 0:
			getT.check(t, []byte(b), encodings[b[:length]], length)
		case prefixes[b] > 0:
			getT.refuses(t, []byte(b), api.ErrShort)
		default:
			getT.refuses(t, []byte(b), api.ErrForm)
		}
	}
}

// Promise 7.2: mixed bytes behind first ones that may be right, some cut off.
func TestGetOfMixed(t *testing.T) {
	m := mixer(5)
	for range 3000 {
		b := defineU(m.word())
		b[0] = byte(m.word() % 20)
		b = b[:1+m.word()%uint64(len(b))]
		oracleU().holds(t, getU, b)
		oracleI().holds(t, getI, b)
		oracleF().holds(t, getF, b[1:])
	}
}
