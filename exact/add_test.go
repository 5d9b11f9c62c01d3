package exact_test

import (
	"math"
	"slices"
	"testing"

	"bushel/exact"
	"bushel/nat"
)

// Promise 5.1: what Add leaves, in the chapter's encoding.
func TestAdd(t *testing.T) {
	for _, c := range []struct {
		l    []float64
		want []byte
	}{
		{nil, encoding(0, 0)},
		{[]float64{0}, encoding(flagOther, 0)},
		{[]float64{minus0}, encoding(flagMinus0, 0)},
		{[]float64{minus0, 0}, encoding(flagMinus0|flagOther, 0)},
		{[]float64{nan}, encoding(flagNaN, 0)},
		{[]float64{math.Float64frombits(math.MaxUint64)}, encoding(flagNaN, 0)},
		{[]float64{infinity}, encoding(flagInfinity, 0)},
		{[]float64{-infinity}, encoding(flagMinusInfinity, 0)},
		{[]float64{infinity, -infinity}, encoding(flagInfinity|flagMinusInfinity, 0)},
		{[]float64{nan, infinity, -infinity, minus0, 0}, encoding(31, 0)},
		{[]float64{smallest}, encoding(flagOther, 0, 1)},
		{[]float64{-smallest}, encoding(flagOther|flagNegative, 0, 1)},
		{[]float64{1}, encoding(flagOther, 33, 1<<18)},
		{[]float64{-1}, encoding(flagOther|flagNegative, 33, 1<<18)},
		{[]float64{1, 1}, encoding(flagOther, 33, 1<<19)},
		{[]float64{1, -1}, encoding(flagOther, 0)},
		{[]float64{-1, 1}, encoding(flagOther, 0)},
		{[]float64{1, -2}, encoding(flagOther|flagNegative, 33, 1<<18)},
		{[]float64{-1, 2}, encoding(flagOther, 33, 1<<18)},
		{[]float64{1, minus0, nan}, encoding(flagOther|flagMinus0|flagNaN, 33, 1<<18)},
		{[]float64{-1, -infinity}, encoding(flagOther|flagNegative|flagMinusInfinity, 33, 1<<18)},
		{[]float64{0x1p-1042}, encoding(flagOther, 1, 1)},
		{[]float64{0x1p-1042, -smallest}, encoding(flagOther, 0, math.MaxUint32)},
		{[]float64{0x1p-1042, smallest}, encoding(flagOther, 0, 1, 1)},
		{[]float64{0x1p-1010, smallest}, encoding(flagOther, 0, 1, 0, 1)},
		{[]float64{largest}, encoding(flagOther, 63, 1<<18-1, math.MaxUint32, 7<<29)},
		{[]float64{-largest}, encoding(flagOther|flagNegative, 63, 1<<18-1, math.MaxUint32, 7<<29)},
		{[]float64{largest, largest}, encoding(flagOther, 63, 1<<19-1, math.MaxUint32, 6<<29)},
		{[]float64{largest, smallest, -largest}, encoding(flagOther, 0, 1)},
	} {
		checkBytes(t, sumOf(t, c.l...), c.want, c.l)
	}
}

// Promise 5.1: each float alone, and each pair.
func TestAddPairs(t *testing.T) {
	for _, x := range all() {
		checkBytes(t, sumOf(t, x), modelOf(x).encoding(), x)
		for _, y := range all() {
			checkBytes(t, sumOf(t, x, y), modelOf(x, y).encoding(), x, y)
		}
	}
}

// Promise 5.1: after each addition to a long list.
func TestAddMany(t *testing.T) {
	m := mixer(1)
	s, want := exact.New(), model{}
	for _, x := range m.floats(3000, true) {
		if !s.Add(x) {
			t.Fatalf("Add(%x) was refused", x)
		}
		want = want.with(x)
		checkBytes(t, s, want.encoding(), "after", x)
	}
}

// Promise 5.1: Join adds everything that was added to the other sum, which stays
// as it is, and the two are independent afterwards.
func TestJoin(t *testing.T) {
	for _, x := range all() {
		for _, y := range all() {
			s, o := sumOf(t, x), sumOf(t, y)
			if !s.Join(o) {
				t.Fatalf("%x could not be joined with %x", x, y)
			}
			checkBytes(t, s, modelOf(x, y).encoding(), x, y)
			checkBytes(t, o, modelOf(y).encoding(), y)
			if !s.Add(1.5) || !o.Add(-0.75) {
				t.Fatalf("no addition after %x was joined with %x", x, y)
			}
			checkBytes(t, s, modelOf(x, y, 1.5).encoding(), x, y, 1.5)
			checkBytes(t, o, modelOf(y, -0.75).encoding(), y, -0.75)
		}
	}
}

// Promise 5.1: an empty sum on either side.
func TestJoinEmpty(t *testing.T) {
	for _, x := range all() {
		s, empty := sumOf(t, x), exact.New()
		if !s.Join(empty) {
			t.Fatalf("%x could not be joined with an empty sum", x)
		}
		checkBytes(t, s, modelOf(x).encoding(), x, "with an empty sum")
		checkBytes(t, empty, encoding(0, 0), "the empty sum")
		if !empty.Join(s) {
			t.Fatalf("an empty sum could not be joined with %x", x)
		}
		checkBytes(t, empty, modelOf(x).encoding(), "an empty sum with", x)
		if !s.Add(-2) {
			t.Fatalf("no addition after %x was joined", x)
		}
		checkBytes(t, empty, modelOf(x).encoding(), "an empty sum with", x, "after a change of that")
	}
	s := exact.New()
	if !s.Join(exact.New()) {
		t.Error("two empty sums could not be joined")
	}
	checkBytes(t, s, encoding(0, 0), "two empty sums")
}

// Promise 5.1: a sum is joined with itself.
func TestJoinItself(t *testing.T) {
	for _, x := range all() {
		for _, y := range all() {
			s := sumOf(t, x, y)
			if !s.Join(s) {
				t.Fatalf("%x and %x could not be joined with themselves", x, y)
			}
			checkBytes(t, s, modelOf(x, y, x, y).encoding(), x, y, "twice")
		}
	}
	s := exact.New()
	if !s.Join(s) {
		t.Error("an empty sum could not be joined with itself")
	}
	checkBytes(t, s, encoding(0, 0), "an empty sum twice")
}

// Promise 5.1: a total is doubled until it has 2240 bits, and no further.
func TestDoubleToTheEnd(t *testing.T) {
	for _, c := range []struct {
		x     float64
		bits  int
		flags int
	}{
		{smallest, 1, flagOther},
		{-smallest, 1, flagOther | flagNegative},
		{1, 1075, flagOther},
		{largest, 2098, flagOther},
		{-largest, 2098, flagOther | flagNegative},
	} {
		s := sumOf(t, c.x)
		for i := range 2240 - c.bits {
			if !s.Join(s) {
				t.Fatalf("%x could not be doubled for the time %d", c.x, i+1)
			}
		}
		before := s.Bytes()
		if len(before) < 4 || int(before[0]) != c.flags || int(before[1])+int(before[2]) != maxWords || before[3] < 1<<7 {
			t.Errorf("%x was doubled to %x, which has not 2240 bits", c.x, before)
		}
		if s.Join(s) {
			t.Errorf("%x was doubled beyond 2240 bits", c.x)
		}
		checkBytes(t, s, before, c.x, "after the refusal")
	}
}

// Promise 5.1: at the longest total, what would make it longer is refused and
// changes nothing, and everything else is added.
func TestAddToLongest(t *testing.T) {
	for _, sign := range []float64{1, -1} {
		flags := flagOther
		if sign < 0 {
			flags |= flagNegative
		}
		full := longest(flags)
		for _, x := range positives() {
			s := read(t, full)
			if s.Add(sign * x) {
				t.Errorf("Add(%x) made a total of more than 2240 bits", sign*x)
			}
			checkBytes(t, s, full, "after the refusal of", sign*x)
			if !s.Add(-sign * x) {
				t.Errorf("Add(%x) was refused at the longest total", -sign*x)
			}
			rest, _ := nat.Sub(slices.Repeat([]uint32{math.MaxUint32}, maxWords), units(x))
			checkBytes(t, s, signedTotal(sign < 0, rest).encoding(), "longest and", -sign*x)
			if !s.Add(sign * x) {
				t.Errorf("Add(%x) was refused, though it makes the longest total", sign*x)
			}
			checkBytes(t, s, full, "longest again with", sign*x)
			if s.Add(sign * smallest) {
				t.Errorf("a total of more than 2240 bits after %x", sign*x)
			}
			checkBytes(t, s, full, "after another refusal")
		}
		s := read(t, full)
		for _, x := range specials() {
			if !s.Add(x) {
				t.Errorf("Add(%x) was refused at the longest total", x)
			}
			flags |= modelOf(x).flags
			checkBytes(t, s, longest(flags), "longest with", x)
			if s.Add(sign * smallest) {
				t.Errorf("a total of more than 2240 bits after %x", x)
			}
			checkBytes(t, s, longest(flags), "longest with", x, "after a refusal")
		}
	}
}

// signedTotal returns the model of a total to which another number was added.
func signedTotal(neg bool, total []uint32) model {
	if neg {
		return model{below: total, flags: flagOther}
	}
	return model{above: total, flags: flagOther}
}

// Promise 5.1: the same limit for Join, which changes neither sum if it refuses:
// not its total, and not what else was added.
func TestJoinWithLongest(t *testing.T) {
	for _, c := range []struct{ same, other int }{
		{flagOther, flagOther | flagNegative},
		{flagOther | flagNegative, flagOther},
	} {
		sign := 1.0
		if c.same&flagNegative != 0 {
			sign = -1
		}
		s, o := read(t, longest(c.same)), sumOf(t, sign*smallest, nan, infinity, -infinity, minus0)
		before := o.Bytes()
		for _, pair := range [][2]*exact.Sum{{s, o}, {o, s}, {s, s}} {
			if pair[0].Join(pair[1]) {
				t.Error("Join made a total of more than 2240 bits")
			}
			checkBytes(t, s, longest(c.same), "the longest sum after a refusal")
			checkBytes(t, o, before, "the short sum after a refusal")
		}
		opposite := read(t, longest(c.other))
		if !s.Join(opposite) {
			t.Error("the longest total and its opposite were refused")
		}
		checkBytes(t, s, encoding(flagOther, 0), "the longest total and its opposite")
		checkBytes(t, opposite, longest(c.other), "the opposite")
		if !s.Join(opposite) {
			t.Error("0 and the longest total were refused")
		}
		checkBytes(t, s, longest(c.other), "0 and the longest total")
	}
}

// Promise 5.1: a total just short of the longest one takes what makes it the
// longest one, and nothing more.
func TestJoinToLongest(t *testing.T) {
	for _, neg := range []int{0, flagNegative} {
		words := slices.Repeat([]uint32{math.MaxUint32}, maxWords)
		words[0] = math.MaxUint32 >> 1
		half := encoding(flagOther|neg, 0, words...)
		s, o := read(t, half), read(t, half)
		power := read(t, encoding(flagOther|neg|flagNaN, maxWords-1, 1<<31))
		if !s.Join(power) {
			t.Error("the longest total was refused")
		}
		checkBytes(t, s, longest(flagOther|neg|flagNaN), "the longest total")
		checkBytes(t, power, encoding(flagOther|neg|flagNaN, maxWords-1, 1<<31), "the power")
		more := read(t, encoding(flagOther|neg|flagNaN, 0, append([]uint32{1 << 31}, append(make([]uint32, maxWords-2), 1)...)...))
		if o.Join(more) || more.Join(o) {
			t.Error("a total of 2^2240 was made")
		}
		checkBytes(t, o, half, "after a refusal")
	}
}

// Promise 5.5: all orders of a few floats, and all ways to join them.
func TestAllOrders(t *testing.T) {
	for _, l := range [][]float64{
		{0.1, 0.2, -0.3},
		{1 << 53, 1, -1 << 53},
		{largest, largest, -largest, smallest},
		{1e100, 1, -1e100, minus0},
		{nan, infinity, -infinity, 1},
		{0, minus0, smallest, -smallest},
	} {
		want := modelOf(l...).encoding()
		permute(l, 0, func() {
			checkBytes(t, sumOf(t, l...), want, l)
			for i := range len(l) + 1 {
				left, right := sumOf(t, l[:i]...), sumOf(t, l[i:]...)
				if !left.Join(right) {
					t.Errorf("%v and %v could not be joined", l[:i], l[i:])
				}
				checkBytes(t, left, want, l[:i], l[i:])
			}
		})
	}
}

// permute calls f with each order of l from the place from on.
func permute(l []float64, from int, f func()) {
	if from == len(l) {
		f()
		return
	}
	for i := from; i < len(l); i++ {
		l[from], l[i] = l[i], l[from]
		permute(l, from+1, f)
		l[from], l[i] = l[i], l[from]
	}
}

// Promise 5.5: long lists in mixed orders, added in parts that are joined in
// mixed orders, too.
func TestMixedOrders(t *testing.T) {
	m := mixer(2)
	for range 100 {
		l := m.floats(1+m.below(100), m.below(2) == 0)
		want := modelOf(l...)
		for range 5 {
			m.mix(l)
			checkBytes(t, sumOf(t, l...), want.encoding(), l)
			checkBytes(t, joined(t, &m, l), want.encoding(), l)
			checkFloat(t, exact.Total(l), sumOf(t, l...).Value(), "Total", l)
		}
	}
}

// joined returns the sum of l, added in parts that are joined two by two.
func joined(t *testing.T, m *mixer, l []float64) *exact.Sum {
	t.Helper()
	var parts []*exact.Sum
	for len(l) > 0 {
		n := m.below(min(len(l), 5) + 1)
		parts = append(parts, sumOf(t, l[:n]...))
		l = l[n:]
	}
	for len(parts) > 1 {
		at, last := m.below(len(parts)-1), len(parts)-1
		if !parts[at].Join(parts[last]) {
			t.Fatal("two parts could not be joined")
		}
		parts = parts[:last]
	}
	return parts[0]
}
