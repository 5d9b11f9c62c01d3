package code

import "bushel/api"

// span holds the numbers from first to last.
type span struct {
	first, last uint64
}

// number returns the number whose big-endian bytes, so many, are at the beginning
// of b, if it is in one of the spans. Otherwise it returns ErrShort if b ends too
// early but can be continued to such a number, and ErrForm if not.
func number(b []byte, size int, allowed ...span) (uint64, api.Errno) {
	reach := completions(b, size)
	for _, s := range allowed {
		if !reach.meets(s) {
			continue
		}
		if len(b) < size {
			return 0, api.ErrShort
		}
		return reach.first, api.OK
	}
	return 0, api.ErrForm
}

// completions returns the span of the numbers of so many big-endian bytes that
// begin with b. If b has as many bytes or more, this is a single number.
func completions(b []byte, size int) span {
	var s span
	for i := range size {
		low, high := byte(0), byte(255)
		if i < len(b) {
			low, high = b[i], b[i]
		}
		s.first = s.first<<byteBits | uint64(low)
		s.last = s.last<<byteBits | uint64(high)
	}
	return s
}

// meets reports whether a number is in both spans.
func (s span) meets(o span) bool {
	return s.first <= o.last && o.first <= s.last
}

// needing returns the span of the numbers up to most that need so many bytes.
func needing(size int, most uint64) span {
	if size == 0 {
		return span{0, 0}
	}
	return span{greatest(size-1) + 1, min(greatest(size), most)}
}

// complement returns the span of what is left of so many bytes, each of them
// subtracted from 255, by the numbers of s.
func (s span) complement(size int) span {
	return span{greatest(size) - s.last, greatest(size) - s.first}
}

// greatest returns the greatest number of so many bytes.
func greatest(size int) uint64 {
	return 1<<(byteBits*size) - 1
}
