package fact_test

import (
	"math"
	"slices"
	"testing"

	"bushel/api"
	"bushel/code"
	"bushel/fact"
)

// checkGet fails if Get does not return these facts.
func checkGet(t *testing.T, s api.Schema, b []byte, want []api.Fact) {
	t.Helper()
	defer settle(t)
	got, errno := fact.Get(s, b)
	if errno != api.OK {
		t.Errorf("Get(%s, %d bytes %d) has the error %d", text(s), len(b), brief(b), errno)
	}
	if !equalFacts(got, want) {
		t.Errorf("Get(%s, %d bytes %d) has %s; want %s", text(s), len(b), brief(b), textOf(got...), textOf(want...))
	}
}

// checkGetError fails if Get returns anything but this error.
func checkGetError(t *testing.T, s api.Schema, b []byte, want api.Errno) {
	t.Helper()
	defer settle(t)
	got, errno := fact.Get(s, b)
	if errno != want {
		t.Errorf("Get(%s, %d bytes %d) has the error %d; want %d", text(s), len(b), brief(b), errno, want)
	}
	if len(got) != 0 {
		t.Errorf("Get(%s, %d bytes %d) has an error and %s", text(s), len(b), brief(b), textOf(got...))
	}
}

// checkGetDefined fails if Get is not as defined.
func checkGetDefined(t *testing.T, s api.Schema, b []byte) api.Errno {
	t.Helper()
	want, errno := defineGet(s, b)
	if errno == api.OK {
		checkGet(t, s, b, want)
	} else {
		checkGetError(t, s, b, errno)
	}
	return errno
}

// Promise 12.3: encodings written out.
func TestGetWritten(t *testing.T) {
	for _, c := range written() {
		checkGet(t, c.s, c.want, c.l)
	}
}

// Promise 12.3: no bytes, and every proper beginning of an encoding.
func TestGetShort(t *testing.T) {
	m := mixer(13)
	for _, s := range samples() {
		checkGetError(t, s, nil, api.ErrShort)
		checkGetError(t, s, []byte{}, api.ErrShort)
		for _, n := range []int{1, 2, 7, 40, 200} {
			l := m.batch(s, n)
			b := definePut(l)
			checkGet(t, s, b, l)
			for end := max(0, len(b)-1000); end < len(b); end++ {
				checkGetError(t, s, b[:end], api.ErrShort)
			}
			checkGetError(t, s, b[:min(100, len(b)-1)], api.ErrShort)
			checkGetError(t, s, slices.Clone(b[:len(b)-1]), api.ErrShort)
		}
	}
}

// Promise 12.3: bytes behind an encoding.
func TestGetMore(t *testing.T) {
	m := mixer(14)
	for _, s := range samples() {
		for _, n := range []int{1, 2, 200} {
			b := definePut(m.batch(s, n))
			for _, more := range [][]byte{{0}, {1}, {8}, {255}, {1, 1}, {0, 0, 0}, b, b[:1], definePut(m.batch(s, 3))[2:], make([]byte, 70000)} {
				checkGetError(t, s, slices.Concat(b, more), api.ErrMore)
			}
		}
	}
}

// encoded returns the encodings of codes (as int or uint64), integers and floats, and
// bytes as they are.
func encoded(parts ...any) []byte {
	var b []byte
	for _, part := range parts {
		switch x := part.(type) {
		case int:
			b = append(b, code.U(uint64(x))...)
		case uint64:
			b = append(b, code.U(x)...)
		case int64:
			b = append(b, code.I(x)...)
		case float64:
			b = append(b, code.F(x)...)
		case []byte:
			b = append(b, x...)
		}
	}
	return b
}

// outcome is bytes, and the error that Get has for them.
type outcome struct {
	want api.Errno
	b    []byte
}

// checkOutcomes fails if Get, or its definition, has other errors.
func checkOutcomes(t *testing.T, s api.Schema, l []outcome) {
	t.Helper()
	for _, c := range l {
		if errno := checkGetDefined(t, s, c.b); errno != c.want {
			t.Errorf("the definition's error of %d is %d; want %d", c.b, errno, c.want)
		}
	}
}

// Promise 12.3: a schema that is not valid comes before all that may be wrong with the
// bytes.
func TestGetBadSchema(t *testing.T) {
	m := mixer(15)
	for _, s := range notValid() {
		checkGetError(t, s, nil, api.ErrArg)
		checkGetError(t, s, []byte{}, api.ErrArg)
		checkGetError(t, s, []byte{0}, api.ErrArg)
		checkGetError(t, s, []byte{0, 0}, api.ErrArg)
		checkGetError(t, s, []byte{255}, api.ErrArg)
		checkGetError(t, s, encoded(201), api.ErrArg)
		f := api.Fact{Codes: make([]int, len(s.Dims)), Ints: make([]int64, len(s.Ints)), Nums: make([]float64, len(s.Nums))}
		checkGetError(t, s, definePut([]api.Fact{f}), api.ErrArg)
		for _, valid := range samples() {
			checkGetError(t, s, definePut(m.batch(valid, 2)), api.ErrArg)
		}
	}
}

// Promise 12.3: numbers of facts from 0 to more than there may be.
func TestGetNumber(t *testing.T) {
	m := mixer(16)
	for _, s := range samples() {
		for _, n := range []int{1, 2, 127, 128, 199, 200} {
			l := m.batch(s, n)
			checkGet(t, s, definePut(l), l)
		}
		for _, n := range []int{201, 202, 255, 256, 257, 456, 1000} {
			b := definePut(m.batch(s, n))
			checkGetError(t, s, b, api.ErrRange)
			checkGetError(t, s, b[:len(b)-1], api.ErrRange)
			checkGetError(t, s, append(b, 0), api.ErrRange)
		}
		for _, n := range []uint64{201, 256 + 1, 1<<16 + 1, 1<<32 + 1, 1 << 40, 1 << 63, 1<<63 + 1, math.MaxUint64} {
			checkGetError(t, s, encoded(n), api.ErrRange)
			checkGetError(t, s, encoded(n, definePut(m.batch(s, 1))[2:]), api.ErrRange)
		}
	}
}

// Promise 12.3: no facts are too few, also with bytes behind the number, whatever they
// are: the number comes first.
func TestGetNone(t *testing.T) {
	m := mixer(17)
	for _, s := range samples() {
		checkGetError(t, s, []byte{0}, api.ErrMany)
		for _, more := range [][]byte{{0}, {1}, {1, 1}, {255}, {0, 0}, definePut(m.batch(s, 1)), definePut(m.batch(s, 1))[2:], make([]byte, 70000)} {
			checkGetError(t, s, slices.Concat([]byte{0}, more), api.ErrMany)
		}
		// A 0 in another form is no number.
		checkGetError(t, s, []byte{1, 0}, api.ErrForm)
		checkGetError(t, s, []byte{1}, api.ErrShort)
	}
}

// Promise 12.3: codes at the end of their range and above, in each place.
func TestGetCode(t *testing.T) {
	m := mixer(18)
	for _, s := range samples() {
		for i, d := range s.Dims {
			for at := range 3 {
				l := m.batch(s, 3)
				for _, x := range []int{0, d.Size / 2, d.Size - 1} {
					l[at].Codes[i] = x
					checkGet(t, s, definePut(l), l)
				}
				for _, x := range []int{d.Size, d.Size + 1, d.Size + 256, 1 << 16, 1 << 32, d.Size - 1 + 1<<32, 1 << 62, math.MaxInt, math.MinInt, -1} {
					l[at].Codes[i] = x
					checkGetError(t, s, definePut(l), api.ErrRange)
				}
			}
		}
	}
}

// Promise 12.3: each code is held against the Size of its own dimension.
func TestGetCodeOfItsDimension(t *testing.T) {
	s := made(0, 0, 2, 5, 3)
	for a := range 7 {
		for b := range 7 {
			for c := range 7 {
				want := api.ErrRange
				if a < 2 && b < 5 && c < 3 {
					want = api.OK
				}
				checkOutcomes(t, s, []outcome{{want, encoded(1, a, b, c)}})
			}
		}
	}
}

// Promise 12.3: bytes that are no encoding, in each place, and the errors that come
// first.
func TestGetForm(t *testing.T) {
	bad, none := []byte{1, 0}, []byte{9}
	i, f := int64(-7), 0.5
	noInt, noFloat := []byte{18, 1}, []byte{255, 241, 0, 0, 0, 0, 0, 0}
	checkOutcomes(t, made(1, 1, 2, 3), []outcome{
		{api.OK, encoded(1, 1, 2, i, f)},
		{api.ErrForm, none},
		{api.ErrForm, bad},
		{api.ErrForm, encoded(none, 1, 2, i, f)},
		{api.ErrForm, encoded(1, none, 2, i, f)},
		{api.ErrForm, encoded(1, 1, none, i, f)},
		{api.ErrForm, encoded(1, 1, bad, i, f)},
		{api.ErrForm, encoded(1, 1, 2, noInt, f)},
		{api.ErrForm, encoded(1, 1, 2, i, noFloat)},
		{api.ErrForm, encoded(1, 1, 2, i, noFloat, 0)},
		{api.ErrForm, encoded(1, 1, 2, noInt, noFloat)},
		{api.ErrRange, encoded(1, 2, none, i, f)},
		{api.ErrForm, encoded(1, none, 3, i, f)},
		{api.ErrRange, encoded(1, 1, 3, noInt)},
		{api.ErrRange, encoded(1, 2)},
		{api.ErrRange, encoded(1, 1, 3)},
		{api.ErrRange, encoded(1, 1, 3, i, f, 0)},
		{api.ErrShort, encoded(1, 1, 2, i)},
		{api.ErrShort, encoded(1, 1, 2, i, []byte{128})},
		{api.ErrShort, encoded(1, 1, 2)},
		{api.ErrMore, encoded(1, 1, 2, i, f, 0)},
		{api.ErrMore, encoded(1, 1, 2, i, f, none)},
		{api.ErrShort, encoded(2, 1, 2, i, f)},
		{api.ErrForm, encoded(2, 1, 2, i, f, none)},
		{api.ErrRange, encoded(2, 1, 2, i, f, 2)},
		{api.ErrRange, encoded(2, 1, 3, i, f, none)},
		{api.ErrForm, encoded(2, 1, 2, noInt, f, 2)},
		{api.ErrRange, encoded(201, none)},
		{api.ErrRange, encoded(201, 2)},
		{api.ErrRange, encoded(201)},
		{api.ErrMany, encoded(0, none)},
		{api.ErrMany, encoded(0, 2)},
	})
}

// Promise 12.3: a number in a form of another kind.
func TestGetOtherKind(t *testing.T) {
	i, f := int64(1), 1.5
	checkOutcomes(t, made(1, 1, 2), []outcome{
		{api.OK, encoded(1, 1, i, f)},
		{api.ErrForm, encoded(1, i, i, f)},
		{defined(made(1, 1, 2), encoded(1, 1, 1, f)), encoded(1, 1, 1, f)},
		{defined(made(1, 1, 2), encoded(1, 1, f, i)), encoded(1, 1, f, i)},
		{api.ErrShort, encoded(1, 1, i, i)},
		{api.ErrForm, encoded(f, 1, i, f)},
	})
}

// defined returns the error of the definition.
func defined(s api.Schema, b []byte) api.Errno {
	_, errno := defineGet(s, b)
	return errno
}

// Promise 12.3: the encodings of other schemas.
func TestGetOtherSchema(t *testing.T) {
	m := mixer(19)
	count := map[api.Errno]int{}
	for _, s := range samples() {
		for _, other := range samples() {
			for range 10 {
				count[checkGetDefined(t, s, definePut(m.batch(other, 1+m.below(4))))]++
			}
		}
	}
	for _, errno := range []api.Errno{api.OK, api.ErrRange, api.ErrShort, api.ErrForm, api.ErrMore} {
		if count[errno] == 0 {
			t.Errorf("no encoding of another schema has the error %d", errno)
		}
	}
	one := []api.Fact{{Codes: []int{1}}}
	checkGetError(t, made(0, 0, 2, 2), definePut(one), api.ErrShort)
	checkGetError(t, made(1, 0, 2), definePut(one), api.ErrShort)
	checkGetError(t, made(0, 1, 2), definePut(one), api.ErrShort)
	checkGetError(t, made(0, 0, 1), definePut(one), api.ErrRange)
	checkGet(t, made(0, 0, 4096), definePut(one), one)
	checkGetError(t, made(0, 0, 2), definePut([]api.Fact{{Codes: []int{1, 0}}}), api.ErrMore)
	checkGetError(t, made(0, 0, 2), definePut([]api.Fact{{Codes: []int{1}, Ints: []int64{0}}}), api.ErrMore)
}

// Promise 12.3: all short strings of bytes that mean something, for small schemas.
func TestGetAll(t *testing.T) {
	meant := []byte{0, 1, 2, 3, 7, 8, 9, 253, 255}
	for _, s := range []api.Schema{made(0, 0, 1), made(0, 0, 3), made(0, 0, 2, 4), made(1, 0, 3), example()} {
		var b [5]byte
		for x := range 9 * 9 * 9 * 9 * 9 {
			for i := range b {
				b[i] = meant[x%9]
				x /= 9
			}
			checkGetDefined(t, s, b[:])
		}
		for x := range 1 << 16 {
			checkGetDefined(t, s, []byte{1, 1, byte(x >> 8), byte(x)})
			checkGetDefined(t, s, []byte{byte(x >> 8), byte(x)})
		}
	}
}

// spoilBytes makes a few changes to bytes.
func (m *mixer) spoilBytes(b []byte) []byte {
	for range m.below(4) {
		at := m.below(len(b) + 1)
		switch m.below(5) {
		case 0:
			b = slices.Insert(b, at, byte(m.word()))
		case 1:
			b = slices.Insert(b, at, b[:m.below(at+1)]...)
		case 2:
			b = slices.Delete(b, at, min(at+1+m.below(3), len(b)))
		case 3:
			if at < len(b) {
				b[at] = byte(m.word())
			}
		case 4:
			if at < len(b) {
				b[at] ^= 1 << m.below(8)
			}
		}
	}
	return b
}

// Promise 12.3: mixed bytes, near encodings, of which all errors come often.
func TestGetMixed(t *testing.T) {
	m := mixer(20)
	count := map[api.Errno]int{}
	for range 12000 {
		s := of(&m, samples())
		l := m.batch(s, of(&m, []int{m.below(2), m.below(9), m.below(9), 199 + m.below(4)}))
		count[checkGetDefined(t, s, m.spoilBytes(definePut(l)))]++
	}
	for _, errno := range []api.Errno{api.OK, api.ErrMany, api.ErrRange, api.ErrShort, api.ErrForm, api.ErrMore} {
		if count[errno] < 300 {
			t.Errorf("only %d mixed bytes have the error %d", count[errno], errno)
		}
	}
}
