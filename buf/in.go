package buf

import (
	"bytes"

	"bushel/api"
	"bushel/code"
)

// In is a reader.
type In struct {
	// bytes is a copy of what was given to NewIn, and never changes.
	bytes []byte

	// position is where the next value begins; or, after a fault, the position of
	// the fault.
	position int

	// errno is the error of the fault, or OK if there is none.
	errno api.Errno

	// made is false for an In that does not come from NewIn.
	made bool
}

// NewIn returns a reader of b at position 0.
func NewIn(b []byte) *In { return &In{bytes: bytes.Clone(b), made: true} }

// U reads an unsigned integer of at most most.
func (i *In) U(most uint64) uint64 {
	return read(i, func(b []byte) (uint64, int, api.Errno) {
		x, length, errno := code.GetU(b)
		if errno == api.OK && x > most {
			return 0, 0, api.ErrRange
		}
		return x, length, errno
	})
}

// I reads a signed integer.
func (i *In) I() int64 { return read(i, code.GetI) }

// F reads a float.
func (i *In) F() float64 { return read(i, code.GetF) }

// T reads a string of at most most bytes.
func (i *In) T(most int) string {
	return read(i, func(b []byte) (string, int, api.Errno) {
		s, length, errno := code.GetT(b)
		if errno == api.OK && len(s) > max(most, 0) {
			return "", 0, api.ErrLong
		}
		return s, length, errno
	})
}

// B reads a byte string of at most most bytes.
func (i *In) B(most int) []byte {
	return read(i, func(b []byte) ([]byte, int, api.Errno) {
		size, head, errno := code.GetU(b)
		switch {
		case errno != api.OK:
			return nil, 0, errno
		// The size may be greater than any int.
		case size > uint64(max(most, 0)):
			return nil, 0, api.ErrLong
		case size > uint64(len(b)-head):
			return nil, 0, api.ErrShort
		}
		length := head + int(size)
		return bytes.Clone(b[head:length]), length, api.OK
	})
}

// read returns the value that get finds at the beginning of the bytes after the
// position, and goes on by the length that get tells; or it records a fault with
// the error of get. After a fault it does nothing.
func read[V any](i *In, get func([]byte) (V, int, api.Errno)) V {
	var none V
	if i.failed() != api.OK {
		return none
	}
	x, length, errno := get(i.bytes[i.position:])
	if errno != api.OK {
		i.errno = errno
		return none
	}
	i.position += length
	return x
}

// failed returns why nothing can be read any more, or OK.
func (i *In) failed() api.Errno {
	if i == nil || !i.made {
		return api.ErrClosed
	}
	return i.errno
}

// Left returns how many bytes are after the position.
func (i *In) Left() int {
	if i.failed() != api.OK {
		return 0
	}
	return len(i.bytes) - i.position
}

// Fault returns the position and the error of the fault.
func (i *In) Fault() (int, api.Errno) {
	errno := i.failed()
	if errno == api.OK || errno == api.ErrClosed {
		return 0, errno
	}
	return i.position, errno
}

// End returns the error of the fault. Bytes that are left are one.
func (i *In) End() api.Errno {
	if i.Left() > 0 {
		i.errno = api.ErrMore
	}
	return i.failed()
}
