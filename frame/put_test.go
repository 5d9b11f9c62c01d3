package frame_test

import (
	"bytes"
	"math"
	"testing"

	"bushel/api"
	"bushel/frame"
)

// checkPut fails if Put does not return this frame.
func checkPut(t *testing.T, body, want []byte) {
	t.Helper()
	got, errno := frame.Put(body)
	if !bytes.Equal(got, want) || errno != api.OK {
		t.Errorf("Put of %d bytes %x.. = %d bytes %x.., %d; want %d bytes %x.., 0", len(body), brief(body), len(got), brief(got), errno, len(want), brief(want))
	}
}

// Promise 9.1 and the chapter's example: no body and a nil one.
func TestPutNothing(t *testing.T) {
	for _, body := range [][]byte{nil, {}} {
		checkPut(t, body, []byte{181, 0, 0, 0, 5, 188, 225, 130})
	}
}

// Promise 9.1: frames written out.
func TestPutWritten(t *testing.T) {
	for _, c := range written() {
		checkPut(t, []byte(c.body), c.want)
	}
}

// Promise 9.1: bodies of all lengths that matter, up to MaxFrame bytes.
func TestPut(t *testing.T) {
	for _, body := range bodies() {
		checkPut(t, body, define(body))
	}
	for n := range 600 {
		body := filled(n, byte(n))
		checkPut(t, body, define(body))
	}
}

// Promise 9.1: the body's length is the only error, from MaxFrame and one on; also
// where its lowest two bytes alone would be allowed.
func TestPutLong(t *testing.T) {
	for _, n := range []int{api.MaxFrame + 1, api.MaxFrame + 2, 65535, 65536, 65537, 1 << 17, 1 << 24, 1<<24 + 1} {
		b, errno := frame.Put(make([]byte, n))
		if len(b) != 0 || errno != api.ErrLong {
			t.Errorf("Put of %d bytes = %d bytes, %d; want none, %d", n, len(b), errno, api.ErrLong)
		}
	}
	checkPut(t, filled(api.MaxFrame, 1), define(filled(api.MaxFrame, 1)))
}

// Promise 9.1: every length that a body may have.
func TestSize(t *testing.T) {
	for n := range api.MaxFrame + 1 {
		if got := frame.Size(n); got != n+8 {
			t.Fatalf("Size(%d) = %d; want %d", n, got, n+8)
		}
	}
}

// Promise 9.1: Size is the size of what Put returns.
func TestSizeOfPut(t *testing.T) {
	for _, body := range bodies() {
		b, _ := frame.Put(body)
		if got := frame.Size(len(body)); got != len(b) {
			t.Errorf("Size(%d) = %d; Put has %d bytes", len(body), got, len(b))
		}
	}
}

// Promise 9.1: lengths of no frame: negative ones, and those above MaxFrame.
func TestSizeOfNone(t *testing.T) {
	for _, n := range []int{
		-1, -2, -7, -8, -9, -60000, math.MinInt32, math.MinInt + 1, math.MinInt,
		api.MaxFrame + 1, api.MaxFrame + 2, api.MaxFrame + 8, 65535, 65536, 1 << 24, math.MaxInt32,
		1 << 32, 1<<32 + 1, math.MaxInt - 8, math.MaxInt - 7, math.MaxInt - 1, math.MaxInt,
	} {
		if got := frame.Size(n); got != 0 {
			t.Errorf("Size(%d) = %d; want 0", n, got)
		}
	}
}
