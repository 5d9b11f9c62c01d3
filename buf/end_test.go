package buf_test

import (
	"testing"

	"bushel/api"
	"bushel/buf"
)

// Promise 8.3: End with nothing left is OK, also twice, and records nothing.
func TestEnd(t *testing.T) {
	for _, b := range [][]byte{nil, {}} {
		i := buf.NewIn(b)
		for range 3 {
			checkEnd(t, i, api.OK)
			checkLeft(t, i, 0, "a reader of no bytes")
		}
	}
	for _, v := range values() {
		i := buf.NewIn(v.encoding)
		checkRead(t, i, v.back, v.text, 0)
		for range 3 {
			checkEnd(t, i, api.OK)
			checkLeft(t, i, 0, v.text)
		}
	}
}

func checkEnd(t *testing.T, i *buf.In, want api.Errno) {
	t.Helper()
	if got := i.End(); got != want {
		t.Errorf("End = %d; want %d", got, want)
	}
}

// Promises 8.2 and 8.3: a read behind an End with nothing left finds no bytes.
func TestReadBehindEnd(t *testing.T) {
	for _, c := range []call{readU(9), readI(), readF(), readT(9), readB(9)} {
		i := at(t)
		checkEnd(t, i, api.OK)
		checkRefused(t, i, c, 3, api.ErrShort)
	}
}

// Promise 8.3: End with bytes left, one or many, at the beginning and behind any
// value, records a fault with the current position.
func TestEndMore(t *testing.T) {
	for _, more := range [][]byte{{0}, {9}, {255}, {1, 5}, {255, 255, 255, 255, 255, 255, 255, 255, 255}} {
		i := buf.NewIn(more)
		checkEnd(t, i, api.ErrMore)
		checkFault(t, i, 0, api.ErrMore, "End at the beginning")
		for _, v := range values() {
			i := buf.NewIn(append(v.encoding[:len(v.encoding):len(v.encoding)], more...))
			checkRead(t, i, v.back, v.text, len(more))
			checkEnd(t, i, api.ErrMore)
			checkFault(t, i, len(v.encoding), api.ErrMore, "End behind "+v.text)
		}
	}
}

// Promise 8.3: End after a fault returns that fault's error, with bytes left and
// without, and leaves the fault as it is.
func TestEndAfterFault(t *testing.T) {
	for _, c := range []struct {
		b     []byte
		read  call
		errno api.Errno
	}{
		{[]byte{1, 5}, readU(4), api.ErrRange},
		{[]byte{1, 5, 0}, readU(4), api.ErrRange},
		{nil, readI(), api.ErrShort},
		{[]byte{11, 1}, readI(), api.ErrShort},
		{[]byte{18, 1}, readI(), api.ErrForm},
		{[]byte{255, 241, 0}, readF(), api.ErrForm},
		{[]byte{97, 98, 0, 0, 7}, readT(1), api.ErrLong},
		{[]byte{1, 3, 97, 98, 99}, readB(2), api.ErrLong},
		{[]byte{1, 3, 97, 98}, readB(3), api.ErrShort},
	} {
		i := at(t, c.b...)
		if got := c.read.run(i); got != c.read.none {
			t.Errorf("%s of %d = %s; want %s", c.read.name, c.b, got, c.read.none)
		}
		for range 3 {
			checkEnd(t, i, c.errno)
		}
		checkFault(t, i, 3, c.errno, c.read.name)
	}
}

// Promise 8.3: Left and Fault change nothing, before a fault and after it.
func TestAskingChangesNothing(t *testing.T) {
	i := at(t, 9, 8, 18)
	for range 3 {
		checkLeft(t, i, 3, "at 3")
	}
	checkRead(t, i, readI(), "0", 2)
	checkRead(t, i, readI(), "-1", 1)
	checkRefused(t, i, readI(), 5, api.ErrForm)
}

// Promise 8.3: Left while values are read.
func TestLeft(t *testing.T) {
	i := buf.NewIn([]byte{1, 5, 97, 0, 0, 9, 1, 2, 7, 7, 128, 0, 0, 0, 0, 0, 0, 0, 0})
	checkLeft(t, i, 19, "at the beginning")
	checkRead(t, i, readU(9), "5", 17)
	checkRead(t, i, readT(9), `"a"`, 14)
	checkRead(t, i, readI(), "0", 13)
	checkRead(t, i, readB(9), `"\a\a"`, 9)
	checkRead(t, i, readF(), "0x0p+00", 1)
	checkRead(t, i, readU(0), "0", 0)
	checkEnd(t, i, api.OK)
}
