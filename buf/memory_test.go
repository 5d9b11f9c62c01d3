package buf_test

import (
	"bytes"
	"math"
	"slices"
	"testing"

	"bushel/api"
	"bushel/buf"
)

// spoil writes over b, and over what stands behind it in its memory.
func spoil(b []byte) {
	b = b[:cap(b)]
	for i := range b {
		b[i] ^= 0x5a
	}
}

// R4 for promise 8.1: B leaves its bytes, and what stands behind them, as they
// are, and keeps none of them.
func TestOutKeepsNoBytes(t *testing.T) {
	for _, s := range texts() {
		whole := append([]byte(s), 1, 2, 3, 4, 5, 6, 7, 8, 9)
		b := whole[:len(s)]
		o := buf.NewOut()
		o.B(b)
		o.B(b)
		o.U(7)
		if !bytes.Equal(whole, append([]byte(s), 1, 2, 3, 4, 5, 6, 7, 8, 9)) {
			t.Errorf("B changed the bytes %q", s)
		}
		spoil(b)
		want := append(append(defineB(s), defineB(s)...), 1, 7)
		checkBytes(t, o, want, "after the given bytes were changed")
	}
}

// R4 for promise 8.1: what Bytes returns belongs to the caller, who may write into
// it and append to it; and the writer goes on without it.
func TestOutBytesAreNew(t *testing.T) {
	for _, v := range values() {
		o := buf.NewOut()
		v.put(o)
		first, second := o.Bytes(), o.Bytes()
		spoil(first)
		if !slices.Equal(second, v.encoding) {
			t.Errorf("two lists of the bytes of %s share memory", v.text)
		}
		checkBytes(t, o, v.encoding, "after the returned bytes were changed")
		_ = append(second, 1, 2, 3)
		o.I(-300)
		if !slices.Equal(second, v.encoding) {
			t.Errorf("the returned bytes of %s changed with the writer", v.text)
		}
		checkBytes(t, o, append(v.encoding[:len(v.encoding):len(v.encoding)], 6, 254, 212), "after an append to the returned bytes")
	}
}

// R4 for promise 8.2: NewIn and the reads leave the bytes as they are, and keep
// none of them.
func TestInKeepsNoBytes(t *testing.T) {
	var want []byte
	for _, v := range values() {
		want = append(want, v.encoding...)
	}
	whole := append(slices.Clone(want), 1, 2, 3, 4)
	b := whole[:len(want)]
	i, other := buf.NewIn(b), buf.NewIn(b)
	for _, v := range values() {
		if got := v.back.run(other); got != v.text {
			t.Errorf("%s = %s; want %s", v.back.name, got, v.text)
		}
	}
	if !bytes.Equal(whole, append(slices.Clone(want), 1, 2, 3, 4)) {
		t.Errorf("reading changed the bytes")
	}
	spoil(b)
	for _, v := range values() {
		if got := v.back.run(i); got != v.text {
			t.Errorf("after the bytes were changed, %s = %s; want %s", v.back.name, got, v.text)
		}
	}
	checkEnd(t, i, api.OK)
}

// The bytes behind the end of those that were given are not read.
func TestInStaysWithin(t *testing.T) {
	whole := []byte{1, 3, 97, 98, 99, 0, 0}
	checkRefused(t, buf.NewIn(whole[:4]), readB(9), 0, api.ErrShort)
	checkRefused(t, buf.NewIn(whole[:1]), readU(9), 0, api.ErrShort)
	checkRefused(t, buf.NewIn(whole[:5]), readT(9), 0, api.ErrShort)
}

// R4 for promise 8.2: what B returns belongs to the caller, and so do strings that
// were read before the bytes change.
func TestReadBytesAreNew(t *testing.T) {
	for _, s := range texts() {
		given := slices.Concat(defineB(s), defineT(s), defineB(s), defineB(s))
		i := buf.NewIn(given)
		first, text, second := i.B(math.MaxInt), i.T(math.MaxInt), i.B(math.MaxInt)
		spoil(first)
		_ = append(second, 9, 9, 9, 9, 9, 9)
		spoil(given)
		if text != s || string(second) != s {
			t.Errorf("%q was read as %q and %q", s, text, second)
		}
		checkRead(t, i, readB(len(s)), textT(s), 0)
	}
}

// R5: a Go copy of a writer is another writer: what is appended to either, in any
// order, is not in the other.
func TestCopiesOfWriters(t *testing.T) {
	for size := range 70 {
		o := buf.NewOut()
		var want []byte
		for n := range size {
			o.U(uint64(n))
			want = append(want, defineU(uint64(n))...)
		}
		first := *o
		second := *o
		o.T("o")
		first.T("a")
		second.T("b")
		first.I(-1)
		third := first
		*o = first
		o.I(0)
		third.I(1)
		end := len(want)
		checkBytes(t, &first, append(want[:end:end], 'a', 0, 0, 8), "the first copy")
		checkBytes(t, &second, append(want[:end:end], 'b', 0, 0), "the second copy")
		checkBytes(t, &third, append(want[:end:end], 'a', 0, 0, 8, 10, 1), "a copy of the copy")
		checkBytes(t, o, append(want[:end:end], 'a', 0, 0, 8, 9), "what was copied over")
	}
}

// R5: a Go copy of a reader is another reader, at the same position.
func TestCopiesOfReaders(t *testing.T) {
	i := at(t, 9, 8, 97, 0, 0)
	other := *i
	checkRead(t, i, readI(), "0", 4)
	checkLeft(t, &other, 5, "the copy")
	checkRefused(t, i, readF(), 4, api.ErrShort)
	checkLeft(t, &other, 5, "the copy")
	checkRead(t, &other, readI(), "0", 4)
	checkRead(t, &other, readI(), "-1", 3)
	failed := *i
	checkFault(t, &failed, 4, api.ErrShort, "a copy of what has a fault")
	checkRead(t, &other, readT(1), `"a"`, 0)
	checkEnd(t, &other, api.OK)
}
