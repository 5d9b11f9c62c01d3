package buf_test

import (
	"math"
	"strings"
	"testing"

	"bushel/buf"
)

// Promise 8.1: a new writer is empty, also when it is asked twice.
func TestNewOut(t *testing.T) {
	o := buf.NewOut()
	checkBytes(t, o, nil, "a new writer")
	checkBytes(t, o, nil, "a new writer for the second time")
}

// Promise 8.1: the chapter's example, and encodings written out.
func TestAppend(t *testing.T) {
	o := buf.NewOut()
	o.U(5)
	o.T("a")
	checkBytes(t, o, []byte{1, 5, 97, 0, 0}, "the example")

	long := strings.Repeat("x", 256)
	for _, c := range []struct {
		v    value
		want []byte
	}{
		{ofU(0), []byte{0}},
		{ofU(300), []byte{2, 1, 44}},
		{ofU(math.MaxUint64), []byte{8, 255, 255, 255, 255, 255, 255, 255, 255}},
		{ofI(0), []byte{9}},
		{ofI(-1), []byte{8}},
		{ofI(-300), []byte{6, 254, 212}},
		{ofI(math.MinInt64), []byte{0, 128, 0, 0, 0, 0, 0, 0, 0}},
		{ofF(0), []byte{128, 0, 0, 0, 0, 0, 0, 0}},
		{ofF(minus0), []byte{127, 255, 255, 255, 255, 255, 255, 255}},
		{ofF(1.5), []byte{191, 248, 0, 0, 0, 0, 0, 0}},
		{ofF(math.NaN()), []byte{255, 255, 255, 255, 255, 255, 255, 255}},
		{ofT(""), []byte{0, 0}},
		{ofT("a\x00b"), []byte{97, 0, 1, 98, 0, 0}},
		{ofB(""), []byte{0}},
		{ofB("a"), []byte{1, 1, 97}},
		{ofB("a\x00b"), []byte{1, 3, 97, 0, 98}},
		{ofB(long[:255]), append([]byte{1, 255}, long[:255]...)},
		{ofB(long), append([]byte{2, 1, 0}, long...)},
	} {
		o := buf.NewOut()
		c.v.put(o)
		checkBytes(t, o, c.want, "the value "+c.v.text)
	}
}

// Promise 8.1: no bytes, as nil and as an empty list, are the same.
func TestAppendNoBytes(t *testing.T) {
	o := buf.NewOut()
	o.B(nil)
	o.B([]byte{})
	o.B([]byte("xyz")[3:])
	checkBytes(t, o, []byte{0, 0, 0}, "three times no bytes")
}

// Promise 8.1: each value alone, and behind and before another one.
func TestAppendAny(t *testing.T) {
	for _, v := range values() {
		o := buf.NewOut()
		v.put(o)
		checkBytes(t, o, v.encoding, v.text)
		o.U(300)
		v.put(o)
		both := append(append(append([]byte{}, v.encoding...), 2, 1, 44), v.encoding...)
		checkBytes(t, o, both, v.text+", 300 and the same")
	}
}

// Promise 8.1: Bytes returns everything, after each of many values, and takes
// nothing away.
func TestAppendMany(t *testing.T) {
	m := mixer(1)
	o := buf.NewOut()
	var want []byte
	for range 500 {
		v := m.mixed()
		v.put(o)
		want = append(want, v.encoding...)
		checkBytes(t, o, want, "behind "+v.text)
	}
	for range 200000 {
		v := m.mixed()
		v.put(o)
		want = append(want, v.encoding...)
	}
	checkBytes(t, o, want, "very many values")
	checkBytes(t, o, want, "very many values for the second time")
}

// Promise 8.1: what is appended to one writer is in no other.
func TestWritersAreApart(t *testing.T) {
	a, b := buf.NewOut(), buf.NewOut()
	a.U(1)
	b.T("x")
	a.I(-1)
	checkBytes(t, a, []byte{1, 1, 8}, "the first writer")
	checkBytes(t, b, []byte{120, 0, 0}, "the second writer")
	checkBytes(t, buf.NewOut(), nil, "a third writer")
}
