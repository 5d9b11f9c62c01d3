package schema_test

import (
	"bytes"
	"math"
	"slices"
	"strings"
	"testing"

	"bushel/api"
	"bushel/code"
	"bushel/schema"
)

// checkGet fails if Get does not return this schema.
func checkGet(t *testing.T, b []byte, want api.Schema) {
	t.Helper()
	defer settle(t)
	got, errno := schema.Get(b)
	if errno != api.OK {
		t.Errorf("Get of %d bytes %d has the error %d", len(b), brief(b), errno)
	}
	checkSchema(t, got, want, "Get")
}

// checkGetError fails if Get returns anything but this error.
func checkGetError(t *testing.T, b []byte, want api.Errno) {
	t.Helper()
	defer settle(t)
	got, errno := schema.Get(b)
	if errno != want {
		t.Errorf("Get of %d bytes %d has the error %d; want %d", len(b), brief(b), errno, want)
	}
	checkSchema(t, got, api.Schema{}, "Get with an error")
}

// checkGetDefined fails if Get of b is not as defined.
func checkGetDefined(t *testing.T, b []byte) api.Errno {
	t.Helper()
	want, errno := defineGet(b)
	if errno == api.OK {
		checkGet(t, b, want)
	} else {
		checkGetError(t, b, errno)
	}
	return errno
}

// Promise 11.3: encodings written out.
func TestGetWritten(t *testing.T) {
	for _, c := range written() {
		checkGet(t, c.want, c.s)
	}
}

// Promise 11.3: no bytes, and every proper beginning of an encoding.
func TestGetShort(t *testing.T) {
	checkGetError(t, nil, api.ErrShort)
	checkGetError(t, []byte{}, api.ErrShort)
	for _, s := range samples() {
		b := definePut(s)
		checkGet(t, b, s)
		for end := range b {
			checkGetError(t, b[:end], api.ErrShort)
			checkGetError(t, slices.Clone(b[:end]), api.ErrShort)
		}
	}
}

// Promise 11.3: beginnings of the encoding of a schema that is not valid are short,
// too: Check comes last.
func TestGetShortInvalid(t *testing.T) {
	for _, s := range []api.Schema{
		{},
		{Dims: []api.Dim{{Name: "sum", Size: 0}}, Ints: []string{"sum"}, Views: []uint32{1, 0}},
		{Dims: dims(4096, 4096, 4096, 4096), Nums: []string{"d0"}},
	} {
		b := definePut(s)
		checkGetError(t, b, defineCheck(s))
		for end := range b {
			checkGetError(t, b[:end], api.ErrShort)
		}
		checkGetError(t, append(b, 0), api.ErrMore)
	}
}

// Promise 11.3: bytes behind an encoding.
func TestGetMore(t *testing.T) {
	for _, s := range samples() {
		b := definePut(s)
		for _, more := range [][]byte{{0}, {1}, {9}, {255}, {1, 1}, {0, 0, 0}, b, b[:1], make([]byte, 70000)} {
			checkGetError(t, slices.Concat(b, more), api.ErrMore)
		}
	}
}

// encoded returns the encodings of numbers and strings, and bytes as they are.
func encoded(parts ...any) []byte {
	var b []byte
	for _, part := range parts {
		switch x := part.(type) {
		case int:
			b = append(b, code.U(uint64(x))...)
		case uint64:
			b = append(b, code.U(x)...)
		case string:
			b = append(b, code.T(x)...)
		case []byte:
			b = append(b, x...)
		}
	}
	return b
}

// outcome is bytes, and the error that Get has for them.
type outcome struct {
	want api.Errno
	b    []byte
}

// checkOutcomes fails if Get, or its definition, has other errors.
func checkOutcomes(t *testing.T, l []outcome) {
	t.Helper()
	for _, c := range l {
		if errno := checkGetDefined(t, c.b); errno != c.want {
			t.Errorf("the definition's error of %d is %d; want %d", c.b, errno, c.want)
		}
	}
}

// Promise 11.3: how many there are of everything, at the limit and above.
func TestGetMany(t *testing.T) {
	n17 := strings.Repeat("a", 17)
	six := encoded(6, "a", 1, "b", 1, "c", 1, "d", 1, "e", 1, "f", 1)
	checkOutcomes(t, []outcome{
		{api.OK, encoded(six, 0, 0, 0)},
		{api.ErrRange, encoded(7)},
		{api.ErrRange, encoded(7, "a", 1, "b", 1, "c", 1, "d", 1, "e", 1, "f", 1, "g", 1, 0, 0, 0)},
		{api.ErrRange, encoded(256+1, "a", 1, 0, 0, 0)},
		{api.ErrRange, encoded(1<<32+1, "a", 1, 0, 0, 0)},
		{api.ErrRange, encoded(uint64(math.MaxUint64))},
		{api.ErrRange, encoded(uint64(math.MaxUint64), n17)},
		{api.ErrMany, encoded(0, 0, 0, 0)},
		{api.ErrMany, encoded(0, 1, "sum", 0, 0)},
		{api.ErrMore, encoded(0, 0, 0, 0, 0)},
		{api.ErrShort, encoded(0, 0, 0)},
		{api.OK, encoded(1, "x", 1, 3, "a", "b", "c", 0, 0)},
		{api.ErrRange, encoded(1, "x", 1, 4, "a", "b", "c", "d", 0, 0)},
		{api.ErrRange, encoded(1, "x", 1, 4)},
		{api.ErrRange, encoded(1, "x", 1, 256)},
		{api.OK, encoded(1, "x", 1, 0, 2, "a", "b", 0)},
		{api.ErrRange, encoded(1, "x", 1, 0, 3, "a", "b", "c", 0)},
		{api.ErrRange, encoded(1, "x", 1, 0, 3)},
		{api.OK, encoded(six, 0, 0, 15, 0, 1, 2, 3, 4, 5, 6, 7, 8, 9, 10, 11, 12, 13, 14)},
		{api.ErrRange, encoded(six, 0, 0, 16, 0, 1, 2, 3, 4, 5, 6, 7, 8, 9, 10, 11, 12, 13, 14, 15)},
		{api.ErrRange, encoded(six, 0, 0, 16)},
		{api.ErrRange, encoded(six, 0, 0, 256)},
	})
}

// Promise 11.3: Sizes and views at their limits and above.
func TestGetNumbers(t *testing.T) {
	checkOutcomes(t, []outcome{
		{api.OK, encoded(1, "x", 4096, 0, 0, 0)},
		{api.ErrRange, encoded(1, "x", 4097, 0, 0, 0)},
		{api.ErrRange, encoded(1, "x", 4097)},
		{api.ErrRange, encoded(1, "x", 1<<16+1, 0, 0, 0)},
		{api.ErrRange, encoded(1, "x", 1<<32+1, 0, 0, 0)},
		{api.ErrRange, encoded(1, "x", uint64(1<<63+1), 0, 0, 0)},
		{api.ErrRange, encoded(1, "x", uint64(math.MaxUint64), 0, 0, 0)},
		{api.ErrRange, encoded(1, "x", 0, 0, 0, 0)},
		{api.ErrMore, encoded(1, "x", 0, 0, 0, 0, 0)},
		{api.ErrRange, encoded(1, "x", 4097, 0, 0, 0, 0)},
		{api.ErrForm, encoded(1, "x", 1, 0, 0, 1, 1<<32-1)},
		{api.ErrRange, encoded(1, "x", 1, 0, 0, 1, 1<<32)},
		{api.ErrRange, encoded(1, "x", 1, 0, 0, 1, 1<<32+1)},
		{api.ErrRange, encoded(1, "x", 1, 0, 0, 1, 1<<40)},
		{api.ErrRange, encoded(1, "x", 1, 0, 0, 1, uint64(math.MaxUint64))},
		{api.ErrMore, encoded(1, "x", 1, 0, 0, 1, 1<<32-1, 0)},
		{api.ErrRange, encoded(1, "x", 1, 0, 0, 1, 1<<32, 0)},
		{api.ErrRange, encoded(4, "a", 4096, "b", 4096, "c", 4096, "d", 17, 0, 0, 0)},
		{api.OK, encoded(4, "a", 4096, "b", 4096, "c", 4096, "d", 16, 0, 0, 0)},
		{api.ErrForm, encoded(2, "a", 1, "b", 1, 0, 0, 1, 3)},
		{api.ErrForm, encoded(2, "a", 1, "b", 1, 0, 0, 2, 1, 1)},
	})
}

// Promise 11.3: names that have as many bytes as they may and one more, and texts that
// are no names.
func TestGetNames(t *testing.T) {
	n16, n17 := strings.Repeat("a", 16), strings.Repeat("a", 17)
	checkOutcomes(t, []outcome{
		{api.OK, encoded(1, n16, 1, 0, 0, 0)},
		{api.ErrLong, encoded(1, n17, 1, 0, 0, 0)},
		{api.ErrLong, encoded(1, n17)},
		{api.ErrShort, encoded(1, []byte(n17))},
		{api.ErrForm, encoded(1, []byte(n17), []byte{0, 2})},
		{api.ErrLong, encoded(1, n17, 4097)},
		{api.ErrRange, encoded(2, "x", 4097, n17, 1)},
		{api.ErrLong, encoded(1, strings.Repeat("é", 9), 1, 0, 0, 0)},
		{api.ErrName, encoded(1, strings.Repeat("é", 8), 1, 0, 0, 0)},
		{api.ErrLong, encoded(1, strings.Repeat("\x00", 17), 1, 0, 0, 0)},
		{api.ErrName, encoded(1, strings.Repeat("\x00", 16), 1, 0, 0, 0)},
		{api.ErrName, encoded(1, "", 1, 0, 0, 0)},
		{api.ErrName, encoded(1, "sum", 1, 0, 0, 0)},
		{api.ErrLong, encoded(1, "x", 1, 1, n17, 0, 0)},
		{api.OK, encoded(1, "x", 1, 1, n16, 0, 0)},
		{api.ErrLong, encoded(1, "x", 1, 0, 1, n17, 0)},
		{api.OK, encoded(1, "x", 1, 0, 1, n16, 0)},
		{api.ErrTwice, encoded(1, "x", 1, 0, 1, "x", 0)},
		{api.ErrRange, encoded(1, "sum", 1, 0, 0, 1, 1<<32)},
		{api.ErrName, encoded(1, "sum", 0, 0, 0, 1, 1<<32-1)},
	})
}

// Promise 11.3: bytes that are no encodings of layer 8.
func TestGetForm(t *testing.T) {
	checkOutcomes(t, []outcome{
		{api.ErrForm, encoded([]byte{9})},
		{api.ErrForm, encoded([]byte{255, 255})},
		{api.ErrForm, encoded([]byte{1, 0})},
		{api.ErrForm, encoded([]byte{2, 0, 1}, "x", 1, 0, 0, 0)},
		{api.ErrForm, encoded(1, "x", []byte{2, 0, 1}, 0, 0, 0)},
		{api.ErrForm, encoded(1, []byte{120, 0, 2}, 1, 0, 0, 0)},
		{api.ErrForm, encoded(1, "x", 1, 0, 0, 1, []byte{1, 0})},
	})
}

// piece is the encoding of a number, with the greatest one that there may be, or of a
// name (most is 0).
type piece struct {
	b    []byte
	most uint64
}

// pieces returns the parts of the encoding of a schema.
func pieces(s api.Schema) []piece {
	var l []piece
	number := func(x int, most uint64) { l = append(l, piece{code.U(uint64(x)), most}) }
	name := func(s string) { l = append(l, piece{code.T(s), 0}) }
	number(len(s.Dims), 6)
	for _, d := range s.Dims {
		name(d.Name)
		number(d.Size, 4096)
	}
	number(len(s.Ints), 3)
	for _, s := range s.Ints {
		name(s)
	}
	number(len(s.Nums), 2)
	for _, s := range s.Nums {
		name(s)
	}
	number(len(s.Views), 15)
	for _, v := range s.Views {
		number(int(v), 1<<32-1)
	}
	return l
}

// wrong is what may stand in the place of a piece, and its error.
type wrong struct {
	b    []byte
	want api.Errno
}

// wrongs returns what is wrong in the place of a piece.
func (p piece) wrongs() []wrong {
	if p.most == 0 {
		return []wrong{
			{code.T(strings.Repeat("a", 17)), api.ErrLong},
			{code.T(strings.Repeat("\x00", 300)), api.ErrLong},
			{[]byte{97, 0, 2}, api.ErrForm},
			{[]byte{0, 255}, api.ErrForm},
		}
	}
	return []wrong{
		{code.U(p.most + 1), api.ErrRange},
		{code.U(math.MaxUint64), api.ErrRange},
		{[]byte{9, 1, 2, 3, 4, 5, 6, 7, 8, 9}, api.ErrForm},
		{[]byte{1, 0}, api.ErrForm},
	}
}

// combined returns the encoding that the pieces make.
func combined(l []piece) []byte {
	var b []byte
	for _, p := range l {
		b = append(b, p.b...)
	}
	return b
}

// Promise 11.3: each part of an encoding, wrong in each way, behind all of what comes
// ahead of it, whatever follows: nothing, the rest, a second wrong part, or more.
func TestGetFirstError(t *testing.T) {
	for _, s := range []api.Schema{example(), greatest(), {Dims: dims(4096, 1), Ints: named("i", 2), Nums: named("n", 1), Views: []uint32{0, 2}}} {
		l := pieces(s)
		if !bytes.Equal(combined(l), definePut(s)) {
			t.Fatalf("the pieces of %s make another encoding", text(s))
		}
		for i, p := range l {
			for _, w := range p.wrongs() {
				head := append(combined(l[:i]), w.b...)
				checkGetError(t, head, w.want)
				checkGetError(t, encoded(head, combined(l[i+1:])), w.want)
				checkGetError(t, encoded(head, combined(l[i+1:]), 0), w.want)
				for j := i + 1; j < len(l); j++ {
					for _, second := range l[j].wrongs() {
						checkGetError(t, encoded(head, combined(l[i+1:j]), second.b, combined(l[j+1:])), w.want)
					}
				}
			}
		}
	}
}

// Promise 11.3: an error of the encoding comes before what Check refuses, also where
// that stands ahead of it; and so do bytes behind the end.
func TestGetBeforeCheck(t *testing.T) {
	for _, s := range []api.Schema{
		{Dims: []api.Dim{{Name: "sum", Size: 2}, {Name: "b", Size: 3}}, Ints: named("i", 2), Nums: named("n", 1), Views: []uint32{0, 1}},
		{Dims: []api.Dim{{Name: "a", Size: 0}, {Name: "a", Size: 3}}, Ints: named("i", 2), Views: []uint32{3, 3}},
		{Ints: named("i", 3), Views: []uint32{3, 3, 1<<32 - 1}},
	} {
		l := pieces(s)
		checkGetError(t, combined(l), defineCheck(s))
		checkGetError(t, append(combined(l), 0), api.ErrMore)
		for i, p := range l {
			for _, w := range p.wrongs() {
				checkGetError(t, encoded(combined(l[:i]), w.b, combined(l[i+1:])), w.want)
			}
		}
	}
}

// Promise 11.3: the encodings of schemas that Check refuses, with several faults, and
// with bytes behind them.
func TestGetInvalid(t *testing.T) {
	several(func(s api.Schema, want api.Errno) {
		b := definePut(s)
		errno := checkGetDefined(t, b)
		if want != api.OK && errno == api.OK {
			t.Errorf("the definition gets %s, which is not valid", text(s))
		}
		checkGetDefined(t, append(b, 0))
	})
	m := mixer(14)
	for range 10000 {
		checkGetDefined(t, definePut(m.mixed()))
	}
}

// Promise 11.3: all strings of up to two bytes, and longer ones of few bytes.
func TestGetAllShort(t *testing.T) {
	for first := range 256 {
		checkGetDefined(t, []byte{byte(first)})
		for second := range 256 {
			checkGetDefined(t, []byte{byte(first), byte(second)})
		}
	}
	const letters = "\x00\x01a"
	good := 0
	for x := range 59049 {
		var b []byte
		for range 10 {
			b = append(b, letters[x%3])
			x /= 3
		}
		if checkGetDefined(t, b) == api.OK {
			good++
		}
	}
	// A dimension a of Size 1 or 97.
	if good != 2 {
		t.Errorf("%d strings of ten bytes are encodings; want 2", good)
	}
}

// change returns b with a small change, or with many letters more.
func (m *mixer) change(b []byte) []byte {
	at := m.below(len(b) + 1)
	size := m.below(min(4, len(b)-at+1))
	var put []byte
	for range m.below(3) {
		put = append(put, byte(m.word())>>m.below(8))
	}
	if m.below(10) == 0 {
		put = bytes.Repeat([]byte("q"), 10+m.below(10))
	}
	return slices.Concat(b[:at], put, b[at+size:])
}

// Promises 11.3 and 11.4: changed encodings, of which each error comes often; what is
// still an encoding is that of what Get returns.
func TestGetChanged(t *testing.T) {
	m := mixer(15)
	count := map[api.Errno]int{}
	for range 40000 {
		b := definePut(m.mixed())
		for range m.below(3) {
			b = m.change(b)
		}
		errno := checkGetDefined(t, b)
		count[errno]++
		if s, _ := schema.Get(b); errno == api.OK {
			checkPut(t, s, b)
		}
	}
	for _, errno := range []api.Errno{api.OK, api.ErrMany, api.ErrName, api.ErrTwice, api.ErrRange, api.ErrForm, api.ErrShort, api.ErrMore, api.ErrLong} {
		if count[errno] < 100 {
			t.Errorf("only %d changed encodings have the error %d", count[errno], errno)
		}
	}
}
