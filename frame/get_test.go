package frame_test

import (
	"slices"
	"testing"

	"bushel/api"
)

// Promise 9.2: frames written out, and those of all bodies.
func TestGet(t *testing.T) {
	for _, c := range written() {
		checkFound(t, c.want, []byte(c.body))
	}
	for _, body := range bodies() {
		checkFound(t, define(body), body)
	}
}

// Promise 9.2: no bytes and nil begin every frame, and are shorter.
func TestGetNothing(t *testing.T) {
	checkRefused(t, nil, api.ErrShort)
	checkRefused(t, []byte{}, api.ErrShort)
}

// Promise 9.2: a first byte that is not 0xb5, alone and before what would be a
// frame otherwise, with a checksum that matches.
func TestGetOtherFirstByte(t *testing.T) {
	for x := range 256 {
		if x == 0xb5 {
			continue
		}
		first := byte(x)
		checkRefused(t, []byte{first}, api.ErrForm)
		checkRefused(t, []byte{first, 0, 0}, api.ErrForm)
		for _, more := range behind() {
			checkRefused(t, slices.Concat(sealed(first, 0, 0, 0), more), api.ErrForm)
			checkRefused(t, slices.Concat(sealed(first, 0, 0, 2, 98, 97), more), api.ErrForm)
		}
	}
}

// Promise 9.2: length bytes that are missing count as 0.
func TestGetMissingLength(t *testing.T) {
	checkRefused(t, []byte{0xb5}, api.ErrShort)
	checkRefused(t, []byte{0xb5, 0, 0}, api.ErrShort)
	checkRefused(t, []byte{0xb5, 0, 0, 0}, api.ErrShort)
	for x := range 256 {
		high, middle := api.ErrShort, api.ErrShort
		if 65536*x > 60000 {
			high = api.ErrForm
		}
		if 256*x > 60000 {
			middle = api.ErrForm
		}
		checkRefused(t, []byte{0xb5, byte(x)}, high)
		checkRefused(t, []byte{0xb5, byte(x), 0}, high)
		checkRefused(t, []byte{0xb5, 0, byte(x)}, middle)
		checkRefused(t, []byte{0xb5, 1, byte(x)}, api.ErrForm)
	}
	// The length of 60001 bytes without its low byte is one of 59904.
	checkRefused(t, []byte{0xb5, 0, 0xea}, api.ErrShort)
	checkRefused(t, []byte{0xb5, 0, 0xea, 0x60}, api.ErrShort)
	checkRefused(t, []byte{0xb5, 0, 0xea, 0x61}, api.ErrForm)
	checkRefused(t, []byte{0xb5, 0, 0xeb}, api.ErrForm)
}

// Promise 9.2: lengths on both sides of MaxFrame, with few bytes behind them and
// with all of them and a checksum that matches.
func TestGetLength(t *testing.T) {
	for _, n := range []int{59999, 60000} {
		b := define(make([]byte, n))
		checkFound(t, b, make([]byte, n))
		checkRefused(t, b[:4], api.ErrShort)
		checkRefused(t, b[:100], api.ErrShort)
	}
	for _, n := range []int{60001, 60002, 61440, 65535, 65536, 65537, 1<<17 + 3, 1<<20 + 256, 1<<24 - 1} {
		b := define(make([]byte, n))
		checkRefused(t, b, api.ErrForm)
		checkRefused(t, append(b, 0), api.ErrForm)
		checkRefused(t, b[:4], api.ErrForm)
		checkRefused(t, b[:100], api.ErrForm)
		checkRefused(t, b[:len(b)-1], api.ErrForm)
	}
}

// Promise 9.2: a frame without its last byte, and without any more of its last
// ones: the length bytes that are left are allowed too.
func TestGetCut(t *testing.T) {
	for _, body := range short() {
		b := define(body)
		for end := range b {
			checkRefused(t, b[:end], api.ErrShort)
		}
	}
	for _, body := range bodies() {
		b := define(body)
		for _, end := range []int{1, 3, 4, 5, len(b) / 2, len(b) - 5, len(b) - 4, len(b) - 3, len(b) - 2, len(b) - 1} {
			checkRefused(t, b[:end], api.ErrShort)
		}
	}
}

// Promise 9.2: one byte of the body or of the checksum is changed, to each other
// one; with other bytes behind the frame too.
func TestGetChanged(t *testing.T) {
	for _, body := range [][]byte{nil, []byte("a"), []byte("bushel"), filled(16, 0)} {
		for _, more := range behind() {
			b := slices.Concat(define(body), more)
			for at := 4; at < 8+len(body); at++ {
				for range 255 {
					b[at]++
					checkRefused(t, b, api.ErrRot)
				}
				b[at]++
			}
			checkFound(t, b, body)
		}
	}
	for _, body := range bodies() {
		b := define(body)
		for _, at := range []int{4, len(b) / 2, len(b) - 5, len(b) - 4, len(b) - 3, len(b) - 2, len(b) - 1} {
			if at >= 4 {
				b[at] ^= 0x10
				checkRefused(t, b, api.ErrRot)
				b[at] ^= 0x10
			}
		}
		checkFound(t, b, body)
	}
}

// Promise 9.2: the checksum is of the head and the body, in little-endian order.
func TestGetOtherChecksum(t *testing.T) {
	for _, body := range bodies() {
		b := define(body)
		end := len(b) - 4
		sum := b[end:]
		reversed := []byte{sum[3], sum[2], sum[1], sum[0]}
		for _, other := range [][]byte{reversed, defineSum(body), defineSum(b), {0, 0, 0, 0}, {255, 255, 255, 255}, {^sum[0], ^sum[1], ^sum[2], ^sum[3]}} {
			if !slices.Equal(other, sum) {
				checkRefused(t, slices.Concat(b[:end], other), api.ErrRot)
			}
		}
	}
}

// Promise 9.2: the first byte comes before the length, both before what is missing,
// and that before the checksum.
func TestGetErrorsInOrder(t *testing.T) {
	long := []byte{0xb5, 0, 0xea, 0x61}
	// ErrForm although bytes are missing, and although the checksum is wrong.
	checkRefused(t, []byte{0xb4, 0, 0, 5, 1, 2}, api.ErrForm)
	checkRefused(t, []byte{0xb4, 0, 0, 0, 1, 2, 3, 4}, api.ErrForm)
	checkRefused(t, []byte{0xb4, 0, 0xea, 0x61, 1}, api.ErrForm)
	checkRefused(t, slices.Concat(long, []byte{1, 2}), api.ErrForm)
	checkRefused(t, slices.Concat(long, filled(60005, 1)), api.ErrForm)
	checkRefused(t, slices.Concat(long, filled(60004, 1)), api.ErrForm)
	// ErrShort although what is there of the checksum is wrong.
	checkRefused(t, []byte{0xb5, 0, 0, 0, 1, 2, 3}, api.ErrShort)
	checkRefused(t, []byte{0xb5, 0, 0, 5, 1, 2, 3, 4, 5, 6, 7, 8}, api.ErrShort)
	checkRefused(t, []byte{0xb5, 0, 0, 5, 1, 2, 3, 4, 5, 6, 7, 8, 9}, api.ErrRot)
	changed := define([]byte("bushel"))
	changed[5]++
	checkRefused(t, changed, api.ErrRot)
	checkRefused(t, changed[:len(changed)-1], api.ErrShort)
}

// Promise 9.2: the errors are the same with any bytes behind what makes up the
// frame's size, and ErrForm with any bytes at all.
func TestGetErrorsBefore(t *testing.T) {
	for _, more := range behind() {
		checkRefused(t, slices.Concat([]byte{0xb4}, more), api.ErrForm)
		checkRefused(t, slices.Concat([]byte{0, 0xb5, 0, 0, 0}, more), api.ErrForm)
		checkRefused(t, slices.Concat([]byte{0xb5, 1}, more), api.ErrForm)
		checkRefused(t, slices.Concat([]byte{0xb5, 0, 0xeb}, more), api.ErrForm)
		checkRefused(t, slices.Concat([]byte{0xb5, 0, 0xea, 0x61}, more), api.ErrForm)
		checkRefused(t, slices.Concat([]byte{0xb5, 0, 0xea, 0x60}, more), api.ErrShort)
		checkRefused(t, slices.Concat([]byte{0xb5, 0, 0, 0, 1, 2, 3, 4}, more), api.ErrRot)
	}
}

// Promise 9.2: only the beginning of b counts; a frame further on is not looked for.
func TestGetOnlyAtTheBeginning(t *testing.T) {
	for _, body := range short() {
		checkRefused(t, slices.Concat([]byte{0}, define(body)), api.ErrForm)
		checkRefused(t, slices.Concat([]byte{0xb5}, define(body)), api.ErrForm)
		checkRefused(t, slices.Concat([]byte{0xb5, 0, 0, 0, 9, 9, 9, 9}, define(body)), api.ErrRot)
	}
}

// Promise 9.2: all short byte strings of the bytes that matter, and mixed ones,
// answer as the definition says.
func TestGetAny(t *testing.T) {
	letters := []byte{0xb5, 0, 1, 0xea, 0x60, 0x61, 255}
	l := [][]byte{nil}
	for from, n := 0, 0; n < 5; n++ {
		end := len(l)
		for _, b := range l[from:end] {
			for _, x := range letters {
				l = append(l, append(slices.Clone(b), x))
			}
		}
		from = end
	}
	m := mixer(92)
	for range 5000 {
		b := append([]byte{0xb5, 0, 0, byte(m.below(20))}, m.text(m.below(30))...)
		l = append(l, b, sealed(b...), sealed(b[:min(len(b), 4+int(b[3]))]...))
	}
	for _, b := range l {
		checkLikeDefinition(t, b)
	}
}

func checkLikeDefinition(t *testing.T, b []byte) {
	t.Helper()
	if body, _, errno := defineGet(b); errno == api.OK {
		checkFound(t, b, body)
	} else {
		checkRefused(t, b, errno)
	}
	bodies, size, errno := defineAll(b)
	checkAll(t, b, bodies, size, errno)
}
