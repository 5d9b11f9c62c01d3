package frame_test

import (
	"bytes"
	"slices"
	"testing"

	"bushel/api"
	"bushel/frame"
)

// Promise 9.4: Get returns what Put was given, whatever follows the frame.
func TestRoundTrip(t *testing.T) {
	for _, body := range bodies() {
		b, _ := frame.Put(body)
		for _, more := range behind() {
			checkFound(t, slices.Concat(b, more), body)
		}
	}
	m := mixer(95)
	for range 2000 {
		body := m.text(m.below(300))
		b, _ := frame.Put(body)
		checkFound(t, append(b, m.text(m.below(40))...), body)
	}
}

// Promise 9.4: frames in frames.
func TestRoundTripOfFrames(t *testing.T) {
	body := []byte("bushel")
	l := [][]byte{body}
	for range 50 {
		body, _ = frame.Put(body)
		l = append(l, body)
	}
	for i := len(l) - 1; i > 0; i-- {
		checkFound(t, l[i], l[i-1])
		checkFound(t, slices.Concat(l[i], l[i]), l[i-1])
	}
}

// changes returns what may be xored onto width bytes: every bit, its complement,
// only the ends, all bits, and mixed ones; none of them is all 0.
func changes(width int) [][]byte {
	m := mixer(96)
	ends := make([]byte, width)
	ends[0] = 1
	ends[width-1] |= 128
	l := [][]byte{filled(width, 255), ends}
	for i := range 8 * width {
		bit, rest := make([]byte, width), filled(width, 255)
		bit[i/8] ^= 1 << (i % 8)
		rest[i/8] ^= 1 << (i % 8)
		l = append(l, bit, rest)
	}
	for range 16 {
		l = append(l, append(m.text(width-1), byte(m.word())|1))
	}
	return l
}

// changed returns b with the change xored onto it at a place.
func changed(b []byte, at int, change []byte) []byte {
	b = bytes.Clone(b)
	for i, x := range change {
		b[at+i] ^= x
	}
	return b
}

// Promise 9.4: one to four consecutive bytes behind the first four, at every place:
// in the body, in the checksum, and across the border between them.
func TestChangesAreDetected(t *testing.T) {
	for _, body := range [][]byte{nil, []byte("a"), []byte("bushel"), filled(12, 0), filled(20, 0xb5), define([]byte("a"))} {
		b, _ := frame.Put(body)
		for width := 1; width <= 4; width++ {
			for at := 4; at+width <= len(b); at++ {
				for _, change := range changes(width) {
					checkRefused(t, changed(b, at, change), api.ErrRot)
				}
			}
		}
	}
}

// Promise 9.4: the same in long frames, at the ends and between.
func TestChangesOfLongFramesAreDetected(t *testing.T) {
	m := mixer(97)
	for _, body := range [][]byte{m.text(1000), m.text(60000), filled(60000, 0)} {
		b, _ := frame.Put(body)
		for width := 1; width <= 4; width++ {
			for _, at := range []int{4, 5, len(b) / 2, len(b) - 6, len(b) - 5, len(b) - 4, len(b) - width} {
				if at+width > len(b) {
					continue
				}
				for _, change := range [][]byte{filled(width, 255), filled(width, 1), append(m.text(width-1), 64)} {
					checkRefused(t, changed(b, at, change), api.ErrRot)
				}
			}
		}
	}
}

// Promise 9.4: with other bytes behind the frame, and in the last of many frames.
func TestChangesAreDetectedAnywhere(t *testing.T) {
	m := mixer(98)
	for range 3000 {
		body := m.text(m.below(60))
		b, _ := frame.Put(body)
		width := 1 + m.below(4)
		at := 4 + m.below(len(b)-4-width+1)
		change := append(m.text(width-1), byte(m.word())|1)
		other := append(changed(b, at, change), m.text(m.below(20))...)
		checkRefused(t, other, api.ErrRot)
		checkAll(t, slices.Concat(b, other), [][]byte{body}, len(b), api.ErrRot)
	}
}
