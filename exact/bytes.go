package exact

import (
	"bushel/api"
	"bushel/nat"
)

// totalNegative is the flag of an encoding for a total below 0. It follows those
// of what has been added, and no flag follows it.
const totalNegative = gotOther << 1

const (
	wordBits  = 32
	wordBytes = wordBits / 8
	maxWords  = maxBits / wordBits
)

// The places in an encoding's head, and its length: the words follow it.
const (
	atFlags = iota
	atNoughts
	atWords
	headBytes
)

// Bytes returns the encoding.
func (s *Sum) Bytes() []byte {
	if !s.usable() {
		return nil
	}
	flags := s.got
	if s.neg {
		flags |= totalNegative
	}
	noughts := nat.Noughts(s.mag) / wordBits
	words := len(s.mag) - noughts
	b := []byte{flags, byte(noughts), byte(words)}
	for i := range words {
		b = appendWord(b, s.mag[len(s.mag)-1-i])
	}
	return b
}

// appendWord appends a word's bytes to b, the highest one first.
func appendWord(b []byte, word uint32) []byte {
	return append(b, byte(word>>24), byte(word>>16), byte(word>>8), byte(word))
}

// wordAt returns the word whose bytes are the i-th ones of b.
func wordAt(b []byte, i int) uint32 {
	var word uint32
	for _, part := range b[i*wordBytes : (i+1)*wordBytes] {
		word = word<<8 | uint32(part)
	}
	return word
}

// Read returns the sum whose encoding is b; or nil and an error if there is none.
func Read(b []byte) (*Sum, api.Errno) {
	if !beginsHead(b) {
		return nil, api.ErrForm
	}
	if len(b) < headBytes {
		return nil, api.ErrShort
	}
	words := int(b[atWords])
	if errno := checkWords(b[headBytes:], words); errno != api.OK {
		return nil, errno
	}
	mag := make([]uint32, int(b[atNoughts])+words)
	for i := range words {
		mag[len(mag)-1-i] = wordAt(b[headBytes:], i)
	}
	flags := b[atFlags]
	return &Sum{
		mag:  mag,
		neg:  flags&totalNegative != 0,
		got:  flags &^ totalNegative,
		made: true,
	}, api.OK
}

// beginsHead reports whether some encoding has the head of b, or begins with b if
// that is shorter than a head.
func beginsHead(b []byte) bool {
	if len(b) <= atFlags {
		return true
	}
	flags := b[atFlags]
	// A total other than 0 needs another finite number, and a negative one is other
	// than 0.
	other, negative := flags&gotOther != 0, flags&totalNegative != 0
	if flags >= totalNegative<<1 || negative && !other {
		return false
	}
	if len(b) <= atNoughts {
		return true
	}
	// Words of 0 are counted only below a word that is not 0.
	noughts := int(b[atNoughts])
	if noughts >= maxWords || noughts > 0 && !other {
		return false
	}
	if len(b) <= atWords {
		return true
	}
	words := int(b[atWords])
	if words == 0 {
		return noughts == 0 && !negative
	}
	return other && noughts+words <= maxWords
}

// checkWords returns OK if b is so many words of which the first and the last one
// are not 0, and otherwise the error.
func checkWords(b []byte, words int) api.Errno {
	length := words * wordBytes
	switch {
	case words > 0 && len(b) >= wordBytes && wordAt(b, 0) == 0:
		return api.ErrForm
	case len(b) < length:
		return api.ErrShort
	case words > 0 && wordAt(b, words-1) == 0:
		return api.ErrForm
	case len(b) > length:
		return api.ErrMore
	}
	return api.OK
}
