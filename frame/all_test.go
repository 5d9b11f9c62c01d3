package frame_test

import (
	"slices"
	"testing"

	"bushel/api"
)

// joined returns the frames of the bodies, one after the other.
func joined(bodies [][]byte) []byte {
	var b []byte
	for _, body := range bodies {
		b = append(b, define(body)...)
	}
	return b
}

// checkJoined fails if All does not return the bodies of their frames, and with
// these bytes behind them this error.
func checkJoined(t *testing.T, bodies [][]byte, rest []byte, errno api.Errno) {
	t.Helper()
	b := joined(bodies)
	checkAll(t, slices.Concat(b, rest), bodies, len(b), errno)
}

// lists holds lists of bodies: none, one, many, and empty bodies in every place.
func lists() [][][]byte {
	l := [][][]byte{nil, {}, short(), {filled(60000, 1)}, {filled(60000, 1), nil, filled(60000, 2)}}
	for _, body := range short() {
		l = append(l, [][]byte{body}, [][]byte{body, body}, [][]byte{nil, body}, [][]byte{body, nil}, [][]byte{[]byte("a"), body, []byte("b")})
	}
	m := mixer(93)
	for range 50 {
		var bodies [][]byte
		for range m.below(12) {
			bodies = append(bodies, m.text(m.below(20)*m.below(20)))
		}
		l = append(l, bodies)
	}
	return l
}

// Promise 9.3: no bytes and nil are no frames, and nothing is wrong with them.
func TestAllOfNothing(t *testing.T) {
	checkAll(t, nil, nil, 0, api.OK)
	checkAll(t, []byte{}, nil, 0, api.OK)
}

// Promise 9.3: frames that make up all of b.
func TestAll(t *testing.T) {
	for _, bodies := range lists() {
		checkJoined(t, bodies, nil, api.OK)
	}
	checkJoined(t, bodies(), nil, api.OK)
}

// Promise 9.3: bodies of no bytes count like others.
func TestAllOfEmptyBodies(t *testing.T) {
	for _, n := range []int{1, 2, 3, 10, 20000} {
		checkJoined(t, make([][]byte, n), nil, api.OK)
		checkJoined(t, make([][]byte, n), []byte{0}, api.ErrForm)
	}
}

// Promise 9.3: frames written out, two and two.
func TestAllWritten(t *testing.T) {
	for _, a := range written() {
		for _, b := range written() {
			checkAll(t, slices.Concat(a.want, b.want), [][]byte{[]byte(a.body), []byte(b.body)}, len(a.want)+len(b.want), api.OK)
		}
	}
}

// bad is no frame, and why.
type bad struct {
	rest  []byte
	errno api.Errno
}

// refused holds each error of Get.
func refused() []bad {
	first, last := define([]byte("bushel")), define([]byte("bushel"))
	first[4]++
	last[len(last)-1]++
	return []bad{
		{[]byte{0}, api.ErrForm},
		{[]byte{0xb4, 0, 0, 0, 5, 188, 225, 130}, api.ErrForm},
		{sealed(0, 0, 0, 0), api.ErrForm},
		{[]byte{0xb5, 1}, api.ErrForm},
		{[]byte{0xb5, 0, 0xeb}, api.ErrForm},
		{[]byte{0xb5, 0, 0xea, 0x61}, api.ErrForm},
		{define(make([]byte, 60001)), api.ErrForm},
		{[]byte{0xb5}, api.ErrShort},
		{[]byte{0xb5, 0}, api.ErrShort},
		{[]byte{0xb5, 0, 0xea}, api.ErrShort},
		{[]byte{0xb5, 0, 0xea, 0x60}, api.ErrShort},
		{define(nil)[:7], api.ErrShort},
		{define([]byte("bushel"))[:13], api.ErrShort},
		{define(make([]byte, 60000))[:60007], api.ErrShort},
		{[]byte{0xb5, 0, 0, 0, 0, 0, 0, 0}, api.ErrRot},
		{first, api.ErrRot},
		{last, api.ErrRot},
	}
}

// Promise 9.3: each error behind the last whole frame: the bodies before it are
// returned, and the size is theirs alone.
func TestAllWithErrorBehind(t *testing.T) {
	for _, c := range refused() {
		checkAll(t, c.rest, nil, 0, c.errno)
		for _, bodies := range lists() {
			checkJoined(t, bodies, c.rest, c.errno)
		}
	}
}

// Promise 9.3: what stands behind the first error does not matter, not even whole
// frames.
func TestAllEndsAtTheFirstError(t *testing.T) {
	more := joined([][]byte{[]byte("c"), nil})
	for _, c := range refused() {
		if c.errno == api.ErrShort {
			continue
		}
		for _, bodies := range lists() {
			checkJoined(t, bodies, slices.Concat(c.rest, more), c.errno)
		}
	}
	// What was too short may go on in what follows.
	checkJoined(t, [][]byte{[]byte("a")}, slices.Concat(define([]byte("b"))[:8], more), api.ErrRot)
	checkJoined(t, [][]byte{[]byte("a")}, slices.Concat([]byte{0xb5}, more), api.ErrForm)
	checkJoined(t, [][]byte{[]byte("a")}, slices.Concat([]byte{0xb5, 0, 0xea, 0x60}, more), api.ErrShort)
}

// Promise 9.3: frames cut at every place: whole frames before it are returned.
func TestAllCut(t *testing.T) {
	bodies := [][]byte{[]byte("bushel"), nil, []byte("a"), filled(20, 0xb5), nil, nil, define(nil)}
	b := joined(bodies)
	whole, size := 0, 0
	for end := range len(b) + 1 {
		if whole < len(bodies) && end == size+8+len(bodies[whole]) {
			size = end
			whole++
		}
		errno := api.ErrShort
		if end == size {
			errno = api.OK
		}
		checkAll(t, b[:end], bodies[:whole], size, errno)
	}
}

// Promise 9.3: a changed byte in any frame ends what is returned before that frame.
func TestAllChanged(t *testing.T) {
	bodies := [][]byte{[]byte("bushel"), nil, []byte("a"), filled(20, 0xb5), nil}
	b := joined(bodies)
	at := 0
	for i, body := range bodies {
		for n := range 8 + len(body) {
			b[at+n] ^= 0xff
			errno := api.ErrRot
			switch n {
			case 0, 1, 2:
				errno = api.ErrForm
			case 3:
				errno = api.ErrShort
			}
			checkAll(t, b, bodies[:i], at, errno)
			b[at+n] ^= 0xff
		}
		at += 8 + len(body)
	}
	checkAll(t, b, bodies, len(b), api.OK)
}

// Promise 9.3: All answers as the definition says for mixed frames and other bytes.
func TestAllAny(t *testing.T) {
	m := mixer(94)
	for range 3000 {
		var b []byte
		for range m.below(6) {
			switch m.below(8) {
			case 0:
				b = append(b, m.text(m.below(12))...)
			case 1:
				b = append(b, 0xb5, 0, byte(m.below(2)), byte(m.below(12)))
			default:
				b = append(b, define(m.text(m.below(12)))...)
			}
		}
		if len(b) > 0 && m.below(3) == 0 {
			b[m.below(len(b))] ^= 1 << m.below(8)
		}
		if m.below(3) == 0 {
			b = b[:m.below(len(b)+1)]
		}
		checkLikeDefinition(t, b)
	}
}
