package agg_test

import (
	"fmt"
	"math"
	"slices"
	"testing"

	"bushel/agg"
	"bushel/api"
	"bushel/code"
)

// checkGet fails if Get has not this cell and this length.
func checkGet(t *testing.T, s api.Schema, mask uint32, b []byte, want api.Cell, length int) {
	t.Helper()
	defer settle(t)
	got, n, errno := agg.Get(s, mask, b)
	call := fmt.Sprintf("Get(%s, %b, %d bytes %d)", text(s), mask, len(b), brief(b))
	checkCell(t, call, got, errno, want, api.OK)
	if n != length {
		t.Errorf("%s has the length %d; want %d", call, n, length)
	}
}

// checkGetError fails if Get has anything but this error.
func checkGetError(t *testing.T, s api.Schema, mask uint32, b []byte, want api.Errno) {
	t.Helper()
	defer settle(t)
	got, n, errno := agg.Get(s, mask, b)
	call := fmt.Sprintf("Get(%s, %b, %d bytes %d)", text(s), mask, len(b), brief(b))
	checkCell(t, call, got, errno, api.Cell{}, want)
	if n != 0 {
		t.Errorf("%s has the error %d and the length %d", call, errno, n)
	}
}

// checkGetDefined fails if Get is not as defined.
func checkGetDefined(t *testing.T, s api.Schema, mask uint32, b []byte) api.Errno {
	t.Helper()
	want, n, errno := defineGet(s, mask, b)
	if errno == api.OK {
		checkGet(t, s, mask, b, want, n)
	} else {
		checkGetError(t, s, mask, b, errno)
	}
	return errno
}

// Promise 14.4: encodings written out, and with bytes behind them.
func TestGetWritten(t *testing.T) {
	for _, r := range written() {
		mask := full(r.s)
		checkGet(t, r.s, mask, r.want, r.c, len(r.want))
		for _, more := range [][]byte{{0}, {1}, {255}, {10, 1}, r.want, make([]byte, 70000), slices.Repeat([]byte{255}, 300)} {
			checkGet(t, r.s, mask, slices.Concat(r.want, more), r.c, len(r.want))
		}
		for i := range r.want {
			checkGetError(t, r.s, mask, r.want[:i], api.ErrShort)
		}
	}
}

// Promise 14.4: no bytes, and every proper beginning of an encoding.
func TestGetShort(t *testing.T) {
	m := mixer(17)
	for _, s := range samples() {
		for _, mask := range []uint32{0, 1, full(s)} {
			checkGetError(t, s, mask, nil, api.ErrShort)
			checkGetError(t, s, mask, []byte{}, api.ErrShort)
			for range 5 {
				c := m.cell(s, mask)
				b := definePut(c)
				checkGet(t, s, mask, b, c, len(b))
				for i := range b {
					checkGetError(t, s, mask, b[:i], api.ErrShort)
					// What stands behind the end in the memory does not count.
					checkGetError(t, s, mask, b[:i:i], api.ErrShort)
				}
			}
		}
	}
}

// Promise 14.4: bytes behind an encoding do not matter.
func TestGetMore(t *testing.T) {
	m := mixer(18)
	for _, s := range samples() {
		for _, mask := range sets(s)[:2] {
			for range 10 {
				c, other := m.cell(s, mask), m.cell(s, mask)
				b := definePut(c)
				for _, more := range [][]byte{{0}, {9}, {255}, {0, 0, 0, 0}, definePut(other), slices.Repeat([]byte{255}, 100)} {
					checkGet(t, s, mask, slices.Concat(b, more), c, len(b))
				}
			}
		}
	}
}

// encoded returns the encodings of unsigned integers (as int or uint64), signed ones and
// floats, and bytes as they are.
func encoded(parts ...any) []byte {
	var b []byte
	for _, part := range parts {
		switch x := part.(type) {
		case int:
			b = append(b, code.U(uint64(x))...)
		case uint64:
			b = append(b, code.U(x)...)
		case int64:
			b = append(b, code.I(x)...)
		case float64:
			b = append(b, code.F(x)...)
		case []byte:
			b = append(b, x...)
		}
	}
	return b
}

// outcome is bytes, and the error that Get has for them.
type outcome struct {
	want api.Errno
	b    []byte
}

// checkOutcomes fails if Get, or its definition, has other errors.
func checkOutcomes(t *testing.T, s api.Schema, mask uint32, l []outcome) {
	t.Helper()
	for i, c := range l {
		if errno := checkGetDefined(t, s, mask, c.b); errno != c.want {
			t.Errorf("outcome %d: the definition's error of %d is %d; want %d", i, c.b, errno, c.want)
		}
	}
}

// Promise 14.4: as many words of Squares as there may be, and more; the greatest word,
// and greater numbers.
func TestGetSquares(t *testing.T) {
	s := made(1, 0, 2)
	head, tail := encoded(1, int64(1), int64(0), int64(0)), encoded(int64(0), int64(0))
	var l []outcome
	for n := range 20 {
		words := []byte{}
		for i := range n {
			words = append(words, encoded(i+1)...)
		}
		want := api.OK
		if n > 7 {
			want = api.ErrRange
		}
		l = append(l, outcome{want, encoded(head, n, words, tail)})
	}
	for _, n := range []uint64{8, 256, 257, 1 << 16, 1<<32 + 1, 1 << 40, 1 << 63, math.MaxUint64} {
		l = append(l, outcome{api.ErrRange, encoded(head, n)}, outcome{api.ErrRange, encoded(head, n, 1, tail)})
	}
	for i := range 7 {
		before, after := slices.Repeat(encoded(5), i), slices.Repeat(encoded(6), 6-i)
		for _, x := range []uint64{1, 1 << 31, math.MaxUint32} {
			l = append(l, outcome{api.OK, encoded(head, 7, before, x, after, tail)})
		}
		for _, x := range []uint64{1 << 32, 1<<32 + 1, 1 << 40, 1 << 63, math.MaxUint64} {
			l = append(l, outcome{api.ErrRange, encoded(head, 7, before, x, after, tail)}, outcome{api.ErrRange, encoded(head, 7, before, x)})
		}
	}
	l = append(l,
		outcome{api.ErrForm, encoded(head, 1, 0, tail)},
		outcome{api.ErrForm, encoded(head, 7, 1, 1, 1, 1, 1, 1, 0, tail)},
		outcome{api.OK, encoded(head, 7, 0, 0, 0, 0, 0, 0, 1, tail)},
		outcome{api.ErrRange, encoded(head, 8, 1, 1, 1, 1, 1, 1, 1, 0, tail)},
		outcome{api.ErrShort, encoded(head, 7, 1, 1, 1, 1, 1, 1)},
		// Where the second word should be, there is a number of another kind.
		outcome{api.ErrForm, encoded(head, 2, 1, tail)},
	)
	checkOutcomes(t, s, 1, l)
}

// Promise 14.4: a Sum of as many bytes as there may be, and more.
func TestGetSum(t *testing.T) {
	head, tail := encoded(1, int64(1)), encoded(0.5, 0.75)
	checkOutcomes(t, made(0, 1, 2), 1, []outcome{
		{api.OK, encoded(head, 283, longestSum(), tail)},
		{api.ErrForm, encoded(head, 283, make([]byte, 283), tail)},
		{api.ErrForm, encoded(head, 282, longestSum()[:282], tail)},
		{api.ErrLong, encoded(head, 284, longestSum(), 0, tail)},
		{api.ErrLong, encoded(head, 284, make([]byte, 284), tail)},
		{api.ErrLong, encoded(head, 284)},
		{api.ErrLong, encoded(head, 284, longestSum())},
		{api.ErrLong, encoded(head, 539, make([]byte, 600))},
		{api.ErrLong, encoded(head, uint64(math.MaxUint64))},
		{api.ErrLong, encoded(head, uint64(1)<<63, tail)},
		{api.ErrLong, encoded(head, uint64(1)<<32, tail)},
		{api.ErrLong, encoded(head, uint64(1)<<32+3, sumOf(), tail)},
		{api.ErrShort, encoded(head, 283)},
		{api.ErrShort, encoded(head, 283, longestSum()[:282])},
		{api.ErrShort, encoded(head, 283, longestSum())},
		{api.ErrForm, encoded(head, 0, tail)},
		{api.OK, encoded(head, 3, sumOf(), tail)},
		{api.ErrForm, encoded(head, 2, []byte{0, 0}, tail)},
		{api.ErrForm, encoded(head, 4, []byte{0, 0, 0, 0}, tail)},
		{api.ErrForm, encoded(head, 3, []byte{64, 0, 0}, tail)},
		{api.ErrForm, encoded(head, []byte{2, 0, 3}, sumOf(), tail)},
	})
	for _, b := range noSums() {
		want := api.ErrForm
		if len(b) > 283 {
			want = api.ErrLong
		}
		checkOutcomes(t, made(0, 1, 2), 1, []outcome{{want, encoded(head, len(b), b, tail)}})
	}
}

// Promise 14.4: bytes that are no encoding of layer 8, in each place, and the errors that
// come first: a faulty encoding comes before a cell that is not valid.
func TestGetForm(t *testing.T) {
	noInt, noFloat, noNumber, long := []byte{18, 1}, []byte{255, 241, 0, 0, 0, 0, 0, 0}, []byte{9}, []byte{1, 0}
	i, f, sum := int64(1), 0.5, encoded(3, sumOf())
	bad := int64(-1)
	checkOutcomes(t, made(1, 1, 2), 1, []outcome{
		{api.OK, encoded(1, i, i, i, 1, 7, i, i, sum, f, f)},
		{api.ErrForm, encoded(noNumber, i, i, i, 1, 7, i, i, sum, f, f)},
		{api.ErrForm, encoded(long, i, i, i, 1, 7, i, i, sum, f, f)},
		{api.ErrForm, encoded(1, noInt, i, i, 1, 7, i, i, sum, f, f)},
		{api.ErrForm, encoded(1, i, noInt, i, 1, 7, i, i, sum, f, f)},
		{api.ErrForm, encoded(1, i, i, noInt, 1, 7, i, i, sum, f, f)},
		{api.ErrForm, encoded(1, i, i, i, noNumber, 7, i, i, sum, f, f)},
		{api.ErrForm, encoded(1, i, i, i, 1, noNumber, i, i, sum, f, f)},
		{api.ErrForm, encoded(1, i, i, i, 1, long, i, i, sum, f, f)},
		{api.ErrForm, encoded(1, i, i, i, 1, 7, noInt, i, sum, f, f)},
		{api.ErrForm, encoded(1, i, i, i, 1, 7, i, noInt, sum, f, f)},
		{api.ErrForm, encoded(1, i, i, i, 1, 7, i, i, noNumber, f, f)},
		{api.ErrForm, encoded(1, i, i, i, 1, 7, i, i, sum, noFloat, f)},
		{api.ErrForm, encoded(1, i, i, i, 1, 7, i, i, sum, f, noFloat)},
		// The first error in the order of the encoding.
		{api.ErrForm, encoded(1, noInt, i, i, 8)},
		{api.ErrForm, encoded(1, i, i, noInt, 8)},
		{api.ErrRange, encoded(1, i, i, i, 8, noInt)},
		{api.ErrRange, encoded(1, i, i, i, 8)},
		{api.ErrRange, encoded(1, i, i, i, 1, 1<<32, noInt)},
		{api.ErrRange, encoded(1, i, i, i, 1, 1<<32, i, i, 284)},
		{api.ErrForm, encoded(1, i, i, i, 1, 7, i, noInt, 284)},
		{api.ErrLong, encoded(1, i, i, i, 1, 7, i, i, 284, noFloat)},
		{api.ErrShort, encoded(1, i, i, i, 2, 7)},
		// A cell that is not valid, and a faulty encoding behind what makes it so.
		{api.ErrForm, encoded(2, i, i, i, 1, 7, i, i, sum, f, f)},
		{api.ErrShort, encoded(2, i, i, i, 1, 7, i, i, sum, f)},
		{api.ErrRange, encoded(2, i, i, i, 8, 7, i, i, sum, f, f)},
		{api.ErrLong, encoded(2, i, i, i, 1, 7, i, i, 284, sum, f, f)},
		{api.ErrShort, encoded(uint64(math.MaxUint64))},
		{api.ErrShort, encoded(1, bad)},
		{api.ErrRange, encoded(1, bad, i, i, 8)},
		{api.ErrForm, encoded(1, bad, i, i, 1, 7, i, i, sum, f, f)},
		{api.ErrRange, encoded(1, i, i, bad, 8)},
		{api.ErrLong, encoded(1, i, i, bad, 0, i, i, 300)},
		{api.ErrShort, encoded(1, i, i, i, 1, 0, i, i)},
		{api.ErrShort, encoded(1, i, i, i, 0, i, bad, sum, f)},
		{api.ErrShort, encoded(1, i, i, i, 0, i, i, 2, 0, 0, f, []byte{128})},
		{api.ErrForm, encoded(1, i, i, i, 0, i, i, sum, f, -f)},
		// Bytes behind it do not help.
		{api.ErrForm, encoded(2, i, i, i, 1, 7, i, i, sum, f, f, 0)},
		{api.ErrForm, encoded(0, int64(0), i, i, 1, 7, i, i, sum, f, f, 0)},
	})
}

// Promise 14.4: Keys of each size, since the encoding has any of them.
func TestGetKey(t *testing.T) {
	for _, s := range samples() {
		if len(s.Ints)+len(s.Nums) > 0 {
			continue
		}
		for _, mask := range sets(s) {
			n := defineKeys(s, mask)
			checkGet(t, s, mask, encoded(n-1, int64(1)), api.Cell{Key: n - 1, Count: 1}, len(encoded(n-1, int64(1))))
			for _, k := range []uint64{n, n + 1, n + 256, n + 1<<32, 1 << 40, 1 << 63, math.MaxUint64} {
				checkGetError(t, s, mask, encoded(k, int64(1)), api.ErrForm)
				checkGetError(t, s, mask, encoded(k), api.ErrShort)
			}
		}
	}
}

// Promise 14.4: a schema that is not valid comes before a set with a bit that is not a
// dimension, and that before all that may be wrong with the bytes.
func TestGetBadSet(t *testing.T) {
	lists := [][]byte{nil, {}, {0}, {255}, {0, 10, 1}, {1, 0}, encoded(0, int64(1), int64(0), int64(0), 8), definePut(plain())}
	for _, s := range notValid() {
		c := api.Cell{Count: 1, Ints: make([]api.Whole, len(s.Ints)), Nums: slices.Repeat([]api.Real{{Sum: sumOf()}}, len(s.Nums))}
		for _, mask := range []uint32{0, 1, 3, 4, 64, 1 << 31, math.MaxUint32} {
			for _, b := range append(lists, definePut(c)) {
				checkGetError(t, s, mask, b, api.ErrArg)
			}
		}
	}
	m := mixer(19)
	for _, s := range samples() {
		for _, mask := range noSets(s) {
			for _, b := range append(lists, definePut(m.cell(s, 0))) {
				checkGetError(t, s, mask, b, api.ErrNone)
			}
		}
	}
}

// Promise 14.4: the encodings of cells that are not valid.
func TestGetNotValid(t *testing.T) {
	m := mixer(20)
	count := map[api.Errno]int{}
	for _, c := range notRight(&m) {
		for _, mask := range sets(plainSchema()) {
			count[checkGetDefined(t, plainSchema(), mask, definePut(c))]++
		}
	}
	// What is too long for layer 8 is not valid either.
	for _, errno := range []api.Errno{api.ErrForm, api.ErrRange, api.ErrLong} {
		if count[errno] == 0 {
			t.Errorf("no cell that is not valid has the error %d", errno)
		}
	}
	checkGetError(t, made(0, 0, 2), 1, definePut(api.Cell{Key: 0, Count: 0}), api.ErrForm)
	checkGetError(t, made(0, 0, 2), 1, definePut(api.Cell{Key: 2, Count: 1}), api.ErrForm)
	checkGetError(t, made(0, 0, 2), 0, definePut(api.Cell{Key: 1, Count: 1}), api.ErrForm)
	checkGetError(t, made(1, 0, 2), 0, definePut(single(api.Whole{Sum: 2, Abs: 1})), api.ErrForm)
	checkGetError(t, made(1, 0, 2), 0, definePut(single(api.Whole{Squares: []uint32{3, 0}})), api.ErrForm)
	checkGetError(t, made(0, 1, 2), 0, definePut(lone(api.Real{Sum: sumOf(), Min: 0, Max: minus0})), api.ErrForm)
	checkGetError(t, made(0, 1, 2), 0, definePut(lone(api.Real{Sum: sumOf(), Min: nan, Max: infinity})), api.ErrForm)
}

// Promise 14.4: the encodings of other schemas and of other sets.
func TestGetOtherSchema(t *testing.T) {
	m := mixer(21)
	count := map[api.Errno]int{}
	for _, s := range samples() {
		for _, other := range samples() {
			for range 20 {
				mask := of(&m, sets(other))
				count[checkGetDefined(t, s, of(&m, sets(s)), definePut(m.cell(other, mask)))]++
			}
		}
	}
	for _, errno := range []api.Errno{api.OK, api.ErrShort, api.ErrForm} {
		if count[errno] < 100 {
			t.Errorf("only %d encodings of another schema have the error %d", count[errno], errno)
		}
	}
	// The first numbers of a cell may be a cell of a schema with fewer measures.
	b := definePut(plain())
	checkGet(t, made(0, 0, 2), 1, b, api.Cell{Count: 3}, 3)
	checkGet(t, made(1, 0, 2), 1, b, api.Cell{Count: 3, Ints: plain().Ints[:1]}, len(definePut(api.Cell{Count: 3, Ints: plain().Ints[:1]})))
	checkGetError(t, made(3, 2, 2), 1, encoded(0, int64(1)), api.ErrShort)
	checkGetError(t, made(1, 0, 2), 1, encoded(1, int64(1)), api.ErrShort)
	checkGetError(t, made(0, 1, 2), 1, encoded(1, int64(1)), api.ErrShort)
}

// Promise 14.4: all short strings of bytes that mean something, for small schemas.
func TestGetAll(t *testing.T) {
	meant := []byte{0, 1, 2, 7, 8, 9, 10, 254, 255}
	for _, s := range []api.Schema{made(0, 0, 1), made(0, 0, 3), made(1, 0, 3), made(0, 1, 2, 4)} {
		var b [5]byte
		for x := range 9 * 9 * 9 * 9 * 9 {
			for i := range b {
				b[i] = meant[x%9]
				x /= 9
			}
			checkGetDefined(t, s, 1, b[:])
			checkGetDefined(t, s, 1, append([]byte{0, 10, 1}, b[:]...))
		}
	}
}

// spoilBytes makes a few changes to bytes.
func (m *mixer) spoilBytes(b []byte) []byte {
	for range m.below(4) {
		at := m.below(len(b) + 1)
		switch m.below(5) {
		case 0:
			b = slices.Insert(b, at, byte(m.word()))
		case 1:
			b = slices.Insert(b, at, b[:m.below(at+1)]...)
		case 2:
			b = slices.Delete(b, at, min(at+1+m.below(3), len(b)))
		case 3:
			if at < len(b) {
				b[at] = byte(m.word())
			}
		case 4:
			if at < len(b) {
				b[at] ^= 1 << m.below(8)
			}
		}
	}
	return b
}

// Promise 14.4: mixed bytes, near encodings, of which all errors come often.
func TestGetMixed(t *testing.T) {
	m := mixer(22)
	count := map[api.Errno]int{}
	for range 40000 {
		s := of(&m, append(samples(), of(&m, notValid())))
		mask := of(&m, []uint32{0, 1, full(s), full(s), of(&m, noSets(s))})
		c := api.Cell{}
		if len(s.Dims) > 0 && len(s.Ints) < 4 && len(s.Nums) < 3 {
			c = m.cell(made(len(s.Ints), len(s.Nums), 2, 3), 3)
		}
		for range m.below(2) {
			m.spoil(&c)
		}
		count[checkGetDefined(t, s, mask, m.spoilBytes(definePut(c)))]++
	}
	for _, errno := range []api.Errno{api.OK, api.ErrArg, api.ErrNone, api.ErrRange, api.ErrLong, api.ErrShort, api.ErrForm} {
		if count[errno] < 100 {
			t.Errorf("only %d mixed bytes have the error %d", count[errno], errno)
		}
	}
}
