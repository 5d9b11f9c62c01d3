package exact_test

import (
	"bytes"
	"math"
	"slices"
	"testing"

	"bushel/api"
	"bushel/exact"
)

// checkRead holds Read's error against the wanted one. Beside an error there is no
// sum, and a sum that was read has the same encoding.
func checkRead(t *testing.T, b []byte, want api.Errno) {
	t.Helper()
	s, errno := exact.Read(b)
	if errno != want {
		t.Errorf("Read(%x) answers the error %d; want %d", b, errno, want)
		return
	}
	if (s != nil) != (want == api.OK) {
		t.Errorf("Read(%x) answers the sum %v and the error %d", b, s, errno)
		return
	}
	if want == api.OK {
		checkBytes(t, s, b, "after reading it")
	}
}

// ends are the numbers of a head at which something changes.
func ends() []int {
	return []int{0, 1, 2, 3, 33, maxWords - 2, maxWords - 1, maxWords, maxWords + 1, 127, 128, 255}
}

// Promise 5.3: encodings of each length and with each number of words of 0, above
// and below 0.
func TestRead(t *testing.T) {
	for noughts := range maxWords {
		for words := 1; words <= maxWords-noughts; words++ {
			l := make([]uint32, words)
			l[0], l[words-1] = 1, 1
			checkRead(t, encoding(flagOther, noughts, l...), api.OK)
			checkRead(t, encoding(flagOther|flagNegative, noughts, l...), api.OK)
		}
	}
}

// Promise 5.3: whatever is read is the sum that has the encoding.
func TestReadBack(t *testing.T) {
	m := mixer(4)
	for range 300 {
		l := m.floats(m.below(20), m.below(3) == 0)
		want := modelOf(l...)
		b := sumOf(t, l...).Bytes()
		checkRead(t, b, api.OK)
		s := read(t, b)
		checkValues(t, s, want, l)
		x := m.float()
		if !s.Add(x) {
			t.Fatalf("Add(%x) was refused", x)
		}
		checkBytes(t, s, want.with(x).encoding(), l, x)
		if !s.Join(read(t, b)) {
			t.Fatal("a sum that was read could not be joined")
		}
		checkBytes(t, s, modelOf(slices.Concat(l, l, []float64{x})...).encoding(), l, x, l)
	}
	for _, x := range all() {
		checkRead(t, sumOf(t, x).Bytes(), api.OK)
		checkFloat(t, read(t, modelOf(x).encoding()).Value(), x, "Value of", x)
	}
	checkRead(t, longest(flagOther), api.OK)
	checkRead(t, longest(flagOther|flagNegative), api.OK)
	checkRead(t, encoding(0, 0), api.OK)
}

// Promise 5.3: the flags, with totals of 0, above and below it.
func TestReadFlags(t *testing.T) {
	for flags := range 256 {
		known := flags < 64
		zero, other := api.ErrForm, api.ErrForm
		if known && flags&flagNegative == 0 {
			zero = api.OK
		}
		if known && flags&flagOther != 0 {
			other = api.OK
		}
		checkRead(t, encoding(flags, 0), zero)
		checkRead(t, encoding(flags, 0, 1), other)
		checkRead(t, encoding(flags, 69, 1), other)
		checkRead(t, encoding(flags, 0, 1, 0, 1), other)
		checkRead(t, longest(flags), other)
	}
}

// Promise 5.3: the errors, by examples.
func TestReadErrors(t *testing.T) {
	words := func(n int) []uint32 { return slices.Repeat([]uint32{math.MaxUint32}, n) }
	for _, c := range []struct {
		b    []byte
		want api.Errno
	}{
		{nil, api.ErrShort},
		{[]byte{0}, api.ErrShort},
		{[]byte{0, 0}, api.ErrShort},
		{[]byte{0, 0, 0}, api.OK},
		{[]byte{0, 0, 0, 0}, api.ErrMore},
		{[]byte{63}, api.ErrShort},
		{[]byte{64}, api.ErrForm},
		{[]byte{128, 0, 0}, api.ErrForm},
		// Below 0, and no other finite number.
		{[]byte{32}, api.ErrForm},
		{[]byte{32, 0, 0}, api.ErrForm},
		{encoding(32, 0, 1), api.ErrForm},
		{encoding(47, 0, 1), api.ErrForm},
		// Below 0, and a total of 0.
		{[]byte{48}, api.ErrShort},
		{[]byte{48, 0}, api.ErrShort},
		{[]byte{48, 0, 0}, api.ErrForm},
		{[]byte{48, 0, 0, 0}, api.ErrForm},
		// A total, and no other finite number.
		{[]byte{15, 0, 1}, api.ErrForm},
		{encoding(0, 0, 1), api.ErrForm},
		{[]byte{15, 1}, api.ErrForm},
		// Words of 0 and nothing above them.
		{[]byte{16, 1}, api.ErrShort},
		{[]byte{16, 1, 0}, api.ErrForm},
		{[]byte{16, 1, 0, 0}, api.ErrForm},
		{[]byte{16, 0, 0}, api.OK},
		{[]byte{16, 0, 0, 0}, api.ErrMore},
		// More than 2240 bits.
		{[]byte{16, 69}, api.ErrShort},
		{[]byte{16, 70}, api.ErrForm},
		{[]byte{16, 255}, api.ErrForm},
		{encoding(16, 69, 1), api.OK},
		{encoding(16, 69, math.MaxUint32), api.OK},
		{encoding(16, 70, 1), api.ErrForm},
		{encoding(16, 69, 1, 1), api.ErrForm},
		{[]byte{16, 69, 2}, api.ErrForm},
		{encoding(16, 0, words(70)...), api.OK},
		{encoding(16, 0, words(71)...), api.ErrForm},
		{encoding(16, 1, words(70)...), api.ErrForm},
		{encoding(16, 200, words(100)...), api.ErrForm},
		{[]byte{16, 0, 70}, api.ErrShort},
		{[]byte{16, 0, 71}, api.ErrForm},
		// Words of 0 at either end.
		{encoding(16, 0, 0), api.ErrForm},
		{encoding(16, 0, 0, 1), api.ErrForm},
		{encoding(16, 0, 1, 0), api.ErrForm},
		{encoding(16, 0, 1, 0, 1), api.OK},
		{append(encoding(16, 0, 1, 0), 1), api.ErrForm},
		{append(encoding(16, 0, 0), 1), api.ErrForm},
		// Numbers of words that the words do not fit.
		{[]byte{16, 0, 1}, api.ErrShort},
		{[]byte{16, 0, 1, 0, 0, 0}, api.ErrShort},
		{[]byte{16, 0, 2, 0, 0, 0}, api.ErrShort},
		{[]byte{16, 0, 2, 0, 0, 0, 0}, api.ErrForm},
		{[]byte{16, 0, 2, 0, 0, 0, 1}, api.ErrShort},
		{[]byte{16, 0, 2, 0, 0, 0, 1, 0, 0, 0}, api.ErrShort},
		{[]byte{16, 0, 2, 0, 0, 0, 1, 0, 0, 0, 0}, api.ErrForm},
		{[]byte{16, 0, 2, 0, 0, 0, 1, 0, 0, 0, 1}, api.OK},
		{[]byte{16, 0, 1, 0, 0, 0, 1, 0, 0, 0, 1}, api.ErrMore},
		{[]byte{16, 0, 3, 0, 0, 0, 1, 0, 0, 0, 1}, api.ErrShort},
	} {
		checkRead(t, c.b, c.want)
	}
}

// heads returns all heads of encodings: the chapter's flags, words of 0 and other
// words that go together.
func heads() [][]byte {
	var l [][]byte
	for flags := range 64 {
		if flags&flagNegative == 0 {
			l = append(l, []byte{byte(flags), 0, 0})
		}
		if flags&flagOther == 0 {
			continue
		}
		for noughts := range maxWords {
			for words := 1; noughts+words <= maxWords; words++ {
				l = append(l, []byte{byte(flags), byte(noughts), byte(words)})
			}
		}
	}
	return l
}

// oracle knows the heads of encodings and their beginnings.
type oracle map[string]int

func newOracle() oracle {
	o := oracle{}
	for _, head := range heads() {
		for i := range len(head) + 1 {
			o[string(head[:i])]++
		}
	}
	return o
}

// isEncoding reports whether b is an encoding.
func (o oracle) isEncoding(b []byte) bool {
	if len(b) < 3 || o[string(b[:3])] == 0 || len(b) != 3+4*int(b[2]) {
		return false
	}
	nought := make([]byte, 4)
	return len(b) == 3 || !bytes.Equal(b[3:7], nought) && !bytes.Equal(b[len(b)-4:], nought)
}

// errno returns Read's error in the chapter's words: something is the beginning
// of an encoding if the highest bytes behind it make one.
func (o oracle) errno(b []byte) api.Errno {
	if o.isEncoding(b) {
		return api.OK
	}
	if len(b) < 3 {
		if o[string(b)] > 0 {
			return api.ErrShort
		}
		return api.ErrForm
	}
	length := 3 + 4*int(b[2])
	if len(b) > length && o.isEncoding(b[:length]) {
		return api.ErrMore
	}
	if len(b) < length && o.isEncoding(append(slices.Clone(b), bytes.Repeat([]byte{255}, length-len(b))...)) {
		return api.ErrShort
	}
	return api.ErrForm
}

// Promise 5.3: heads with all flags and numbers of words of 0, those where the
// words begin to be too many, and all that are shorter.
func TestReadHeads(t *testing.T) {
	o := newOracle()
	checkRead(t, nil, api.ErrShort)
	for flags := range 256 {
		b := []byte{byte(flags)}
		checkRead(t, b, o.errno(b))
		for noughts := range 256 {
			b := []byte{byte(flags), byte(noughts)}
			checkRead(t, b, o.errno(b))
			fit := maxWords - noughts
			for _, words := range []int{0, 1, 2, fit - 1, fit, fit + 1, maxWords, maxWords + 1, 128, 255} {
				b := []byte{byte(flags), byte(noughts), byte(words)}
				checkRead(t, b, o.errno(b))
			}
		}
	}
}

// Promise 5.3: proper prefixes of bytes that are encodings or are not, and bytes
// behind them.
func TestReadPrefixes(t *testing.T) {
	o := newOracle()
	for _, flags := range []int{0, 1, 8, 15, 16, 31, 32, 47, 48, 63, 64, 80, 128, 255} {
		for _, noughts := range ends() {
			for _, words := range ends() {
				for _, pattern := range []uint32{0, 1, 1 << 31, 1 << 16, math.MaxUint32} {
					l := slices.Repeat([]uint32{pattern}, words)
					checkPrefixes(t, o, encoding(flags, noughts, l...))
					if words > 0 {
						l[words-1] = ^pattern
						checkPrefixes(t, o, encoding(flags, noughts, l...))
					}
				}
			}
		}
	}
}

// checkPrefixes holds Read against the oracle for what b begins with, from a few
// bytes on and near b's end, and for what follows b.
func checkPrefixes(t *testing.T, o oracle, b []byte) {
	t.Helper()
	for i := range len(b) {
		if i < 16 || i > len(b)-10 {
			checkRead(t, b[:i], o.errno(b[:i]))
		}
	}
	checkRead(t, b, o.errno(b))
	for _, more := range [][]byte{{0}, {1}, {0, 0, 0, 0}, {255, 255, 255, 255}, make([]byte, 300)} {
		long := append(slices.Clone(b), more...)
		checkRead(t, long, o.errno(long))
	}
}

// Promise 5.3: each proper prefix of an encoding is short, and one byte more is
// too much.
func TestReadOfCut(t *testing.T) {
	m := mixer(5)
	lists := [][]float64{nil, {0}, {minus0}, {nan}, {1}, {-1}, {smallest}, {-smallest}, {largest}, {1e100, 1e-100}, {largest, -smallest}}
	for range 50 {
		lists = append(lists, m.floats(5, true))
	}
	for _, l := range lists {
		b := sumOf(t, l...).Bytes()
		for i := range len(b) {
			checkRead(t, b[:i], api.ErrShort)
		}
		for more := range 256 {
			checkRead(t, append(slices.Clone(b), byte(more)), api.ErrMore)
		}
		checkRead(t, slices.Concat(b, b), api.ErrMore)
	}
}

// Promise 5.3: mixed bytes, and encodings in which a byte was changed.
func TestReadMixed(t *testing.T) {
	o, m := newOracle(), mixer(6)
	for range 20000 {
		b := make([]byte, m.below(20))
		for i := range b {
			b[i] = byte(m.word() >> (m.below(4) * 8) & m.word())
		}
		checkRead(t, b, o.errno(b))
	}
	for range 300 {
		b := sumOf(t, m.floats(3, false)...).Bytes()
		for range 20 {
			changed := slices.Clone(b)
			changed[m.below(len(b))] ^= byte(1 << m.below(8))
			checkRead(t, changed, o.errno(changed))
		}
	}
}
