package buf_test

import (
	"fmt"
	"testing"

	"bushel/api"
	"bushel/buf"
	"bushel/code"
)

// The calls, with what the chapter says of each.

func readU(most uint64) call {
	return call{
		name: fmt.Sprintf("U(%d)", most),
		run:  func(i *buf.In) string { return textU(i.U(most)) },
		none: textU(0),
		find: func(b []byte) (string, int, api.Errno) {
			x, length, errno := code.GetU(b)
			if errno == api.OK && x > most {
				errno = api.ErrRange
			}
			return textU(x), length, errno
		},
	}
}

func readI() call {
	return call{
		name: "I()",
		run:  func(i *buf.In) string { return textI(i.I()) },
		none: textI(0),
		find: func(b []byte) (string, int, api.Errno) {
			x, length, errno := code.GetI(b)
			return textI(x), length, errno
		},
	}
}

func readF() call {
	return call{
		name: "F()",
		run:  func(i *buf.In) string { return textF(i.F()) },
		none: textF(0),
		find: func(b []byte) (string, int, api.Errno) {
			x, length, errno := code.GetF(b)
			return textF(x), length, errno
		},
	}
}

func readT(most int) call {
	return call{
		name: fmt.Sprintf("T(%d)", most),
		run:  func(i *buf.In) string { return textT(i.T(most)) },
		none: textT(""),
		find: func(b []byte) (string, int, api.Errno) {
			s, length, errno := code.GetT(b)
			if errno == api.OK && len(s) > 0 && len(s) > most {
				errno = api.ErrLong
			}
			return textT(s), length, errno
		},
	}
}

func readB(most int) call {
	return call{
		name: fmt.Sprintf("B(%d)", most),
		run:  func(i *buf.In) string { return textB(i.B(most)) },
		none: textB(nil),
		find: func(b []byte) (string, int, api.Errno) {
			size, head, errno := code.GetU(b)
			if errno != api.OK {
				return "", 0, errno
			}
			if size > 0 && (most < 0 || size > uint64(most)) {
				return "", 0, api.ErrLong
			}
			for n := head; n <= len(b); n++ {
				if uint64(n-head) == size {
					return textB(b[head:n]), n, api.OK
				}
			}
			return "", 0, api.ErrShort
		},
	}
}

// model is a reader as the chapter defines it.
type model struct {
	bytes []byte
	at    int
	errno api.Errno
}

// read answers for a call.
func (m *model) read(c call) string {
	if m.errno != api.OK {
		return c.none
	}
	text, length, errno := c.find(m.bytes[m.at:])
	if errno != api.OK {
		m.errno = errno
		return c.none
	}
	m.at += length
	return text
}

// left answers for Left.
func (m *model) left() int {
	if m.errno != api.OK {
		return 0
	}
	return len(m.bytes) - m.at
}

// fault answers for Fault.
func (m *model) fault() (int, api.Errno) {
	if m.errno == api.OK {
		return 0, api.OK
	}
	return m.at, m.errno
}

// end answers for End.
func (m *model) end() api.Errno {
	if m.errno == api.OK && m.left() > 0 {
		m.errno = api.ErrMore
	}
	return m.errno
}

// agree fails if a reader of b does not answer like the model to the calls, one
// after the other, and then to End.
func agree(t *testing.T, b []byte, calls ...call) {
	t.Helper()
	i, m := buf.NewIn(b), &model{bytes: b}
	name := ""
	compare := func(what string, got, want any) {
		t.Helper()
		if got != want {
			t.Errorf("%d:%s: %s = %v; want %v", b, name, what, got, want)
		}
	}
	compareState := func() {
		t.Helper()
		at, errno := i.Fault()
		wantAt, want := m.fault()
		compare("the position of Fault", at, wantAt)
		compare("the error of Fault", errno, want)
		compare("Left", i.Left(), m.left())
	}
	for _, c := range calls {
		name += " " + c.name
		compare("the value", c.run(i), m.read(c))
		compareState()
	}
	for range 2 {
		name += " End()"
		compare("the result", i.End(), m.end())
		compareState()
	}
}

// Promises 8.2 and 8.3: all short strings of the bytes that matter, read by any
// two calls.
func TestReadsOfShortStrings(t *testing.T) {
	calls := []call{readU(0), readU(1), readU(255), readI(), readF(), readT(-1), readT(0), readT(1), readB(0), readB(1), readB(2)}
	for _, s := range strung("\x00\x01\x02\x09\xff", 4) {
		for _, first := range calls {
			for _, second := range calls {
				agree(t, []byte(s), first, second)
			}
		}
	}
}

// Promises 8.2 and 8.3: values of all kinds one after the other, some with a byte
// changed or some bytes cut off, and read by other calls now and then.
func TestReadsOfMixed(t *testing.T) {
	m := mixer(8)
	for range 20000 {
		var b []byte
		var calls []call
		for range 1 + m.below(6) {
			v := m.mixed()
			b = append(b, v.encoding...)
			c := v.back
			if m.below(8) == 0 {
				c = []call{readU(m.word()), readI(), readF(), readT(m.below(9)), readB(m.below(9))}[m.below(5)]
			}
			calls = append(calls, c)
		}
		switch m.below(3) {
		case 0:
			b[m.below(len(b))] = byte(m.word())
		case 1:
			b = b[:m.below(len(b))]
		}
		agree(t, b, calls...)
	}
}
