package crc_test

import (
	"math"
	"testing"

	"bushel/crc"
)

// turn is after how many bytes of 0 every register is back where it was: 2^31 - 1
// shifts do nothing, and neither do eight times as many.
const turn = 1<<31 - 1

// Promise 6.2: the parts of a string cut at every place; either part may be empty.
func TestJoin(t *testing.T) {
	for _, b := range texts() {
		for i := range len(b) + 1 {
			first, second := checksum(b[:i]), checksum(b[i:])
			checkSum(t, crc.Join(first, second, len(b)-i), checksum(b), "Join after a cut at", i, b)
		}
	}
}

// Promise 6.2: the chapter's example, cut.
func TestJoinExample(t *testing.T) {
	checkSum(t, crc.Join(crc.Sum([]byte("1234")), crc.Sum([]byte("56789")), 5), 0xe3069283, "Join of the example's parts")
	// The other way round it is another string.
	checkSum(t, crc.Join(crc.Sum([]byte("56789")), crc.Sum([]byte("1234")), 4), checksum([]byte("567891234")), "Join of the parts exchanged")
}

// Promise 6.2: behind every checksum, strings of every kind.
func TestJoinBehindAny(t *testing.T) {
	for _, a := range sums() {
		for _, b := range texts() {
			checkSum(t, crc.Join(a, checksum(b), len(b)), continued(a, b), "Join", a, b)
		}
	}
}

// Promise 6.2: an empty part, before or after.
func TestJoinWithNothing(t *testing.T) {
	for _, c := range sums() {
		checkSum(t, crc.Join(c, 0, 0), c, "Join with nothing behind", c)
	}
	for _, b := range texts() {
		checkSum(t, crc.Join(0, checksum(b), len(b)), checksum(b), "Join with nothing before", b)
	}
}

// Promise 6.2: one byte of each value.
func TestJoinOneByte(t *testing.T) {
	for x := range 256 {
		b := []byte{byte(x)}
		for _, a := range sums() {
			checkSum(t, crc.Join(a, checksum(b), 1), continued(a, b), "Join", a, b)
		}
	}
}

// Promise 6.2: a negative n is 0, whatever the checksums are.
func TestJoinNegative(t *testing.T) {
	for _, n := range []int{-1, -2, -3, -7, -8, -255, -1 << 31, -turn, -1 << 62, -math.MaxInt, math.MinInt + 1, math.MinInt} {
		for _, a := range sums() {
			checkSum(t, crc.Join(a, 0, n), a, "Join", a, 0, n)
			for _, b := range sums() {
				checkSum(t, crc.Join(a, b, n), crc.Join(a, b, 0), "Join", a, b, n)
			}
		}
	}
}

// Promise 6.2: parts that no memory holds, the longest one among them: whole turns
// of their length may be left out.
func TestJoinLong(t *testing.T) {
	m := mixer(3)
	for _, c := range []struct{ n, same int }{
		{turn, 0},
		{turn + 1, 1},
		{turn + 5, 5},
		{2 * turn, 0},
		{2*turn + 1, 1},
		{2*turn + 33, 33},
		// 2^62 - 1 is a multiple of 2^31 - 1.
		{1<<62 - 1, 0},
		{1 << 62, 1},
		{1<<62 + 3, 4},
		{math.MaxInt - 1, 0},
		{math.MaxInt, 1},
	} {
		b := m.text(c.same)
		for _, a := range sums() {
			checkSum(t, crc.Join(a, checksum(b), c.n), continued(a, b), "Join", a, b, c.n)
		}
	}
}

// Promise 6.2: one byte fewer than a turn takes a byte of 0 back.
func TestJoinTakesBack(t *testing.T) {
	nought := []byte{0}
	for _, a := range sums() {
		before := crc.Join(a, 0, turn-1)
		checkSum(t, define(before, nought), a, "a byte of 0 after Join", a, 0, turn-1)
	}
}

// Promise 6.2: it does not matter which of three parts are joined first, of what
// length they are.
func TestJoinOfThree(t *testing.T) {
	lengths := []int{0, 1, 2, 3, 100, 1 << 16, 1<<31 - 1, 1 << 40, 1<<61 - 1}
	l := sums()
	for i, n := range lengths {
		for j, o := range lengths {
			a, b, c := l[i], l[j+10], l[i+j+20]
			left := crc.Join(crc.Join(a, b, n), c, o)
			right := crc.Join(a, crc.Join(b, c, o), n+o)
			checkSum(t, left, right, "Join of three", a, b, c, n, o)
		}
	}
}

// Promise 6.2: a long string.
func TestJoinMany(t *testing.T) {
	m := mixer(4)
	b := m.text(70000)
	want := checksum(b)
	for _, i := range []int{0, 1, 4095, 4096, 4465, 34999, 65536, 69999, 70000} {
		checkSum(t, crc.Join(checksum(b[:i]), checksum(b[i:]), len(b)-i), want, "Join after a cut at", i)
	}
}

// Promise 6.2: no string of fewer than four bytes has most checksums, and then
// nothing is promised but an answer; it is that of the other lengths: what differs
// in b differs in the answer.
func TestJoinOfNoPart(t *testing.T) {
	for _, n := range []int{math.MinInt, -1, 0, 1, 2, 3} {
		part := make([]byte, max(n, 0))
		for _, a := range sums() {
			for _, b := range sums() {
				want := continued(a, part) ^ checksum(part) ^ b
				checkSum(t, crc.Join(a, b, n), want, "Join", a, b, n)
			}
		}
	}
}
