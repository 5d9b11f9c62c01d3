package frame_test

import (
	"bytes"
	"testing"

	"bushel/api"
	"bushel/frame"
)

// spoil writes over b, and over what stands behind it in its memory.
func spoil(b []byte) {
	b = b[:cap(b)]
	for i := range b {
		b[i] ^= 0x5a
	}
}

// within returns b at the beginning of memory that goes on behind it, and all of
// that memory.
func within(b []byte) (part, whole []byte) {
	whole = append(bytes.Clone(b), 0xb5, 0, 0, 0, 5, 188, 225, 130, 1, 2, 3)
	return whole[:len(b)], whole
}

// checkStays fails if whole is no longer what within made of b.
func checkStays(t *testing.T, whole, b []byte, name string) {
	t.Helper()
	if _, want := within(b); !bytes.Equal(whole, want) {
		t.Errorf("%s changed its bytes %x.., or those behind them", name, brief(b))
	}
}

// R4 for promise 9.1: Put leaves the body as it is and keeps none of it, and what
// it returns belongs to the caller.
func TestPutSharesNothing(t *testing.T) {
	for _, body := range bodies() {
		part, whole := within(body)
		first, _ := frame.Put(part)
		second, _ := frame.Put(part)
		checkStays(t, whole, body, "Put")
		spoil(whole)
		if want := define(body); !bytes.Equal(first, want) || !bytes.Equal(second, want) {
			t.Errorf("the frame of %x.. changed with its body", brief(body))
		}
		_ = append(first, 1, 2, 3, 4)
		spoil(first)
		if !bytes.Equal(second, define(body)) {
			t.Errorf("two frames of %x.. share memory", brief(body))
		}
		spoil(whole)
		checkStays(t, whole, body, "a change of the frame")
		checkPut(t, body, define(body))
	}
}

// R4 for promise 9.2: Get leaves b as it is and keeps none of it, and the body that
// it returns belongs to the caller.
func TestGetSharesNothing(t *testing.T) {
	for _, body := range bodies() {
		b := define(body)
		part, whole := within(b)
		first, _, _ := frame.Get(part)
		second, _, _ := frame.Get(part)
		checkStays(t, whole, b, "Get")
		_ = append(first, 1, 2, 3, 4, 5, 6, 7, 8, 9)
		checkStays(t, whole, b, "an append to the body")
		spoil(first)
		checkStays(t, whole, b, "a change of the body")
		spoil(whole)
		if !bytes.Equal(second, body) {
			t.Errorf("the body %x.. changed with another one, or with the frame", brief(body))
		}
		checkFound(t, b, body)
	}
}

// R4 for promise 9.3: All leaves b as it is and keeps none of it, and each body that
// it returns belongs to the caller.
func TestAllSharesNothing(t *testing.T) {
	for _, bodies := range lists() {
		b := joined(bodies)
		part, whole := within(b)
		first, _, _ := frame.All(part)
		second, _, _ := frame.All(part)
		checkStays(t, whole, b, "All")
		for i := range first {
			_ = append(first[i], 1, 2, 3, 4, 5, 6, 7, 8, 9)
			spoil(first[i])
			checkStays(t, whole, b, "a change of a body")
			for n, body := range first[i+1:] {
				if want := bodies[i+1+n]; !bytes.Equal(body, want) {
					t.Fatalf("the body %x.. changed with one before it", brief(want))
				}
			}
		}
		spoil(whole)
		for i, body := range second {
			if !bytes.Equal(body, bodies[i]) {
				t.Errorf("the body %x.. changed with another list, or with the frames", brief(bodies[i]))
			}
		}
		checkAll(t, b, bodies, len(b), api.OK)
	}
}

// R4 for promise 9.3: bodies before an error belong to the caller too.
func TestAllWithErrorSharesNothing(t *testing.T) {
	want := [][]byte{[]byte("bushel"), []byte("a"), []byte("bc")}
	for _, c := range refused() {
		b := append(joined(want), c.rest...)
		bodies, _, _ := frame.All(b)
		spoil(b)
		if len(bodies) != len(want) {
			t.Fatalf("All has %d bodies; want %d", len(bodies), len(want))
		}
		for i, body := range bodies {
			if !bytes.Equal(body, want[i]) {
				t.Errorf("the body %q changed with another one, or with the frames: %q", want[i], body)
			}
			spoil(body)
		}
	}
}

// The bytes behind the end of those that were given are not read.
func TestStaysWithin(t *testing.T) {
	for _, body := range short() {
		b := define(body)
		for end := range b {
			checkRefused(t, b[:end], api.ErrShort)
			if end > 0 {
				checkAll(t, b[:end], nil, 0, api.ErrShort)
			}
		}
		part, _ := within(b)
		checkAll(t, part, [][]byte{body}, len(b), api.OK)
	}
	long := define(make([]byte, 60001))
	checkRefused(t, long[:3], api.ErrShort)
}

// R5: the same arguments have the same results, whatever was asked in between.
func TestAskedAgain(t *testing.T) {
	b := joined([][]byte{[]byte("a"), nil, []byte("bushel")})
	for range 3 {
		checkAll(t, b, [][]byte{[]byte("a"), nil, []byte("bushel")}, 31, api.OK)
		checkFound(t, b, []byte("a"))
		checkRefused(t, b[1:], api.ErrForm)
		checkAll(t, b[:30], [][]byte{[]byte("a"), nil}, 17, api.ErrShort)
	}
}
