package nat_test

import (
	"math"
	"slices"
	"testing"

	"bushel/nat"
)

const top = 1<<32 - 1

// checkList demands a normalized list of the number.
func checkList(t *testing.T, got []uint32, want decimal, name string, arguments ...any) {
	t.Helper()
	checkNormalized(t, got, name, arguments...)
	if decimalOf(got) != want {
		t.Errorf("%s%v = %v; want %s", name, arguments, got, want)
	}
}

func checkNormalized(t *testing.T, got []uint32, name string, arguments ...any) {
	t.Helper()
	if len(got) > 0 && got[len(got)-1] == 0 {
		t.Errorf("%s%v = %v: not normalized", name, arguments, got)
	}
}

// Promise 2.1.
func TestOf(t *testing.T) {
	for _, c := range []struct {
		x    uint64
		want []uint32
	}{
		{0, nil},
		{1, []uint32{1}},
		{12345, []uint32{12345}},
		{1<<32 - 1, []uint32{top}},
		{1 << 32, []uint32{0, 1}},
		{1<<32 + 5, []uint32{5, 1}},
		{1 << 63, []uint32{0, 1 << 31}},
		{math.MaxUint64, []uint32{top, top}},
	} {
		if got := nat.Of(c.x); !slices.Equal(got, c.want) {
			t.Errorf("Of(%d) = %v; want %v", c.x, got, c.want)
		}
	}
}

// Promise 2.1.
func TestTrim(t *testing.T) {
	for _, c := range []struct{ a, want []uint32 }{
		{nil, nil},
		{[]uint32{}, nil},
		{[]uint32{0}, nil},
		{[]uint32{0, 0, 0, 0}, nil},
		{[]uint32{1}, []uint32{1}},
		{[]uint32{1, 0}, []uint32{1}},
		{[]uint32{0, 1}, []uint32{0, 1}},
		{[]uint32{0, 0, 7, 0, 0}, []uint32{0, 0, 7}},
		{[]uint32{5, 0, top}, []uint32{5, 0, top}},
	} {
		if got := nat.Trim(c.a); !slices.Equal(got, c.want) {
			t.Errorf("Trim(%v) = %v; want %v", c.a, got, c.want)
		}
	}
}

// Promise 2.1.
func TestCmp(t *testing.T) {
	for _, c := range []struct {
		a, b []uint32
		want int
	}{
		{nil, nil, 0},
		{nil, []uint32{0, 0}, 0},
		{[]uint32{0}, nil, 0},
		{nil, []uint32{1}, -1},
		{[]uint32{1}, nil, 1},
		{[]uint32{1, 0, 0}, []uint32{1}, 0},
		{[]uint32{2}, []uint32{1, 0, 0}, 1},
		{[]uint32{1, 0, 0}, []uint32{2}, -1},
		{[]uint32{top}, []uint32{0, 1}, -1},
		{[]uint32{0, 1}, []uint32{top}, 1},
		{[]uint32{9, 1}, []uint32{1, 2}, -1},
		{[]uint32{1, 2}, []uint32{9, 1}, 1},
		{[]uint32{1, 2}, []uint32{1, 2}, 0},
		{[]uint32{1, 1 << 31}, []uint32{1, 1}, 1},
		{[]uint32{4, 5, 6}, []uint32{3, 5, 6}, 1},
		{[]uint32{4, 5, 6}, []uint32{5, 5, 6}, -1},
	} {
		if got := nat.Cmp(c.a, c.b); got != c.want {
			t.Errorf("Cmp(%v, %v) = %d; want %d", c.a, c.b, got, c.want)
		}
	}
	for _, a := range numbers() {
		for _, b := range numbers() {
			if got, want := nat.Cmp(a, b), decimalOf(a).compare(decimalOf(b)); got != want {
				t.Errorf("Cmp(%v, %v) = %d; want %d", a, b, got, want)
			}
		}
	}
}

// Promise 2.1.
func TestBits(t *testing.T) {
	for _, c := range []struct {
		a    []uint32
		want int
	}{
		{nil, 0},
		{[]uint32{0}, 0},
		{[]uint32{0, 0}, 0},
		{[]uint32{1}, 1},
		{[]uint32{2}, 2},
		{[]uint32{3}, 2},
		{[]uint32{4, 0, 0}, 3},
		{[]uint32{1<<31 - 1}, 31},
		{[]uint32{1 << 31}, 32},
		{[]uint32{top, 0}, 32},
		{[]uint32{0, 1}, 33},
		{[]uint32{top, top}, 64},
		{[]uint32{0, 0, 1}, 65},
		{append(make([]uint32, 999), 1, 0), 31969},
	} {
		if got := nat.Bits(c.a); got != c.want {
			t.Errorf("Bits(%v) = %d; want %d", c.a, got, c.want)
		}
	}
}

// Promise 2.1.
func TestNoughts(t *testing.T) {
	for _, c := range []struct {
		a    []uint32
		want int
	}{
		{nil, 0},
		{[]uint32{0}, 0},
		{[]uint32{0, 0}, 0},
		{[]uint32{1}, 0},
		{[]uint32{2}, 1},
		{[]uint32{3, 0}, 0},
		{[]uint32{12}, 2},
		{[]uint32{1 << 31}, 31},
		{[]uint32{1 << 31, 1}, 31},
		{[]uint32{0, 1}, 32},
		{[]uint32{0, 6, 1}, 33},
		{[]uint32{0, 0, 1 << 31, 0}, 95},
		{append(make([]uint32, 999), 8), 31971},
	} {
		if got := nat.Noughts(c.a); got != c.want {
			t.Errorf("Noughts(%v) = %d; want %d", c.a, got, c.want)
		}
	}
}

// Promise 2.1: beyond 64 bits there is no Uint, however many words are 0.
func TestUint(t *testing.T) {
	for _, c := range []struct {
		a    []uint32
		want uint64
		ok   bool
	}{
		{nil, 0, true},
		{[]uint32{0}, 0, true},
		{[]uint32{0, 0, 0, 0}, 0, true},
		{[]uint32{7}, 7, true},
		{[]uint32{top}, 1<<32 - 1, true},
		{[]uint32{0, 1}, 1 << 32, true},
		{[]uint32{5, 1}, 1<<32 + 5, true},
		{[]uint32{0, 1 << 31}, 1 << 63, true},
		{[]uint32{top, top}, math.MaxUint64, true},
		{[]uint32{top, top, 0, 0}, math.MaxUint64, true},
		{[]uint32{0, 0, 1}, 0, false},
		{[]uint32{5, 0, 1}, 0, false},
		{[]uint32{5, 6, 1, 0}, 0, false},
		{[]uint32{5, 0, 0, 1}, 0, false},
		{[]uint32{top, top, top}, 0, false},
	} {
		if got, ok := nat.Uint(c.a); got != c.want || ok != c.ok {
			t.Errorf("Uint(%v) = %d, %t; want %d, %t", c.a, got, ok, c.want, c.ok)
		}
	}
	for _, x := range []uint64{0, 1, 1<<32 - 1, 1 << 32, 1<<63 - 1, 1 << 63, math.MaxUint64} {
		if got, ok := nat.Uint(nat.Of(x)); got != x || !ok {
			t.Errorf("Uint(Of(%d)) = %d, %t", x, got, ok)
		}
	}
}

// Promise 2.2.
func TestAdd(t *testing.T) {
	for _, c := range []struct{ a, b, want []uint32 }{
		{nil, nil, nil},
		{[]uint32{0, 0}, []uint32{0}, nil},
		{[]uint32{2}, []uint32{3}, []uint32{5}},
		{nil, []uint32{3, 0}, []uint32{3}},
		{[]uint32{3, 0}, nil, []uint32{3}},
		{[]uint32{top}, []uint32{1}, []uint32{0, 1}},
		{[]uint32{top, top}, []uint32{1, 0, 0}, []uint32{0, 0, 1}},
		{[]uint32{1}, []uint32{top, top, top}, []uint32{0, 0, 0, 1}},
		{[]uint32{top, top}, []uint32{top, top}, []uint32{top - 1, top, 1}},
	} {
		if got := nat.Add(c.a, c.b); !slices.Equal(got, c.want) {
			t.Errorf("Add(%v, %v) = %v; want %v", c.a, c.b, got, c.want)
		}
	}
	for _, a := range numbers() {
		for _, b := range numbers() {
			checkList(t, nat.Add(a, b), decimalOf(a).plus(decimalOf(b)), "Add", a, b)
		}
	}
}

// Promise 2.2.
func TestSub(t *testing.T) {
	for _, c := range []struct {
		a, b, want []uint32
		ok         bool
	}{
		{nil, nil, nil, true},
		{[]uint32{0, 0}, []uint32{0}, nil, true},
		{[]uint32{5}, []uint32{3}, []uint32{2}, true},
		{[]uint32{5}, nil, []uint32{5}, true},
		{[]uint32{5, 0}, []uint32{5, 0, 0}, nil, true},
		{[]uint32{0, 1}, []uint32{1}, []uint32{top}, true},
		{[]uint32{0, 0, 0, 1}, []uint32{1, 0}, []uint32{top, top, top}, true},
		{[]uint32{4, 7}, []uint32{3, 7}, []uint32{1}, true},
		{nil, []uint32{1}, nil, false},
		{[]uint32{0, 0}, []uint32{1}, nil, false},
		{[]uint32{3}, []uint32{5}, nil, false},
		{[]uint32{3, 0, 0}, []uint32{5}, nil, false},
		{[]uint32{top}, []uint32{0, 1}, nil, false},
		{[]uint32{3, 7}, []uint32{4, 7}, nil, false},
	} {
		if got, ok := nat.Sub(c.a, c.b); !slices.Equal(got, c.want) || ok != c.ok {
			t.Errorf("Sub(%v, %v) = %v, %t; want %v, %t", c.a, c.b, got, ok, c.want, c.ok)
		}
	}
}

// Promise 2.2: what is taken away and what is left make the number.
func TestSubOfNumbers(t *testing.T) {
	for _, a := range numbers() {
		for _, b := range numbers() {
			x, y := decimalOf(a), decimalOf(b)
			got, ok := nat.Sub(a, b)
			if ok != (x.compare(y) >= 0) || !ok && len(got) != 0 {
				t.Errorf("Sub(%v, %v) = %v, %t", a, b, got, ok)
			}
			checkNormalized(t, got, "Sub", a, b)
			if ok && decimalOf(got).plus(y) != x {
				t.Errorf("Sub(%v, %v) = %v: the sum is not the first number", a, b, got)
			}
		}
	}
}

// Promise 2.2.
func TestMul(t *testing.T) {
	for _, c := range []struct{ a, b, want []uint32 }{
		{nil, nil, nil},
		{nil, []uint32{5, 6}, nil},
		{[]uint32{5, 6}, []uint32{0, 0}, nil},
		{[]uint32{6}, []uint32{7}, []uint32{42}},
		{[]uint32{1, 0}, []uint32{0, 1}, []uint32{0, 1}},
		{[]uint32{0, 1, 0}, []uint32{0, 0, 1}, []uint32{0, 0, 0, 1}},
		{[]uint32{top}, []uint32{top}, []uint32{1, top - 1}},
		{[]uint32{top, top}, []uint32{top, top}, []uint32{1, 0, top - 1, top}},
		{[]uint32{top, top, top}, []uint32{2}, []uint32{top - 1, top, top, 1}},
	} {
		if got := nat.Mul(c.a, c.b); !slices.Equal(got, c.want) {
			t.Errorf("Mul(%v, %v) = %v; want %v", c.a, c.b, got, c.want)
		}
	}
	for _, a := range numbers() {
		for _, b := range numbers() {
			checkList(t, nat.Mul(a, b), decimalOf(a).times(decimalOf(b)), "Mul", a, b)
		}
	}
}

// Promise 2.2.
func TestDiv(t *testing.T) {
	for _, c := range []struct {
		a, b, quotient, remainder []uint32
		ok                        bool
	}{
		{[]uint32{7}, []uint32{2}, []uint32{3}, []uint32{1}, true},
		{[]uint32{6, 0}, []uint32{2, 0, 0}, []uint32{3}, nil, true},
		{nil, []uint32{5}, nil, nil, true},
		{[]uint32{0, 0}, []uint32{5, 5}, nil, nil, true},
		{[]uint32{5, 0}, []uint32{6}, nil, []uint32{5}, true},
		{[]uint32{5, 0, 0}, []uint32{0, 1}, nil, []uint32{5}, true},
		{[]uint32{5, 6}, []uint32{5, 6, 0}, []uint32{1}, nil, true},
		{[]uint32{4, 6}, []uint32{5, 6}, nil, []uint32{4, 6}, true},
		{[]uint32{6, 6}, []uint32{5, 6}, []uint32{1}, []uint32{1}, true},
		{[]uint32{top, top}, []uint32{1}, []uint32{top, top}, nil, true},
		{[]uint32{1, 2, 3}, []uint32{0, 1}, []uint32{2, 3}, []uint32{1}, true},
		// The guess of a digit is 1 too high.
		{[]uint32{3, 0, 1 << 31}, []uint32{1, 0, 1 << 29}, []uint32{3}, []uint32{0, 0, 1 << 29}, true},
		{[]uint32{0, 0, 1 << 31, 1<<31 - 1}, []uint32{1, 0, 1 << 31}, []uint32{top - 1}, []uint32{2, top, 1<<31 - 1}, true},
		// The guess starts above 32 bits.
		{[]uint32{0, top - 1, 1 << 31}, []uint32{top, 1 << 31}, []uint32{top}, []uint32{top, 1<<31 - 1}, true},
		{[]uint32{0, 0, 1}, []uint32{top, top}, []uint32{1}, []uint32{1}, true},
		{nil, nil, nil, nil, false},
		{[]uint32{5}, nil, nil, nil, false},
		{[]uint32{5, 6}, []uint32{0, 0}, nil, nil, false},
		{[]uint32{0}, []uint32{0}, nil, nil, false},
	} {
		quotient, remainder, ok := nat.Div(c.a, c.b)
		if !slices.Equal(quotient, c.quotient) || !slices.Equal(remainder, c.remainder) || ok != c.ok {
			t.Errorf("Div(%v, %v) = %v, %v, %t; want %v, %v, %t", c.a, c.b, quotient, remainder, ok, c.quotient, c.remainder, c.ok)
		}
	}
}

// Promises 2.2 and 2.5.
func TestDivOfNumbers(t *testing.T) {
	for _, a := range numbers() {
		for _, b := range numbers() {
			x, y := decimalOf(a), decimalOf(b)
			quotient, remainder, ok := nat.Div(a, b)
			if y == "0" {
				if len(quotient) != 0 || len(remainder) != 0 || ok {
					t.Errorf("Div(%v, %v) = %v, %v, %t; want [], [], false", a, b, quotient, remainder, ok)
				}
				continue
			}
			checkNormalized(t, quotient, "Div", a, b)
			checkNormalized(t, remainder, "Div", a, b)
			if !ok || decimalOf(quotient).times(y).plus(decimalOf(remainder)) != x {
				t.Errorf("Div(%v, %v) = %v, %v, %t: these do not make the dividend", a, b, quotient, remainder, ok)
			}
			if decimalOf(remainder).compare(y) >= 0 {
				t.Errorf("Div(%v, %v): the remainder %v is too large", a, b, remainder)
			}
		}
	}
}

// Promise 2.5: for all lists of edges and for long ones, where digits are guessed
// wrongly in every way.
func TestDivMakesDividend(t *testing.T) {
	check := func(a, b []uint32) {
		quotient, remainder, ok := nat.Div(a, b)
		if !ok || nat.Cmp(remainder, b) >= 0 || nat.Cmp(nat.Add(nat.Mul(quotient, b), remainder), a) != 0 {
			t.Errorf("Div(%v, %v) = %v, %v, %t", a, b, quotient, remainder, ok)
		}
		checkNormalized(t, quotient, "Div", a, b)
		checkNormalized(t, remainder, "Div", a, b)
	}
	dividends, divisors := [][]uint32{nil}, [][]uint32{nil}
	for range 3 {
		dividends, divisors = longer(dividends), longer(divisors)
	}
	for _, a := range longer(dividends) {
		for i, b := range divisors {
			if i > 0 {
				check(a, b)
			}
		}
	}
	m := mixer(5)
	for words := 1; words < 100; words += 7 {
		divisor := append(m.list(words), 1+m.word()>>1)
		check(m.list(3*words), divisor)
		check(nat.Mul(m.list(words), divisor), divisor)
	}
}

// longer returns the lists with each of the edges behind them. The first one
// stays that of zeros.
func longer(l [][]uint32) [][]uint32 {
	var all [][]uint32
	for _, word := range edges() {
		for _, a := range l {
			all = append(all, append(slices.Clone(a), word))
		}
	}
	return all
}

// Promise 2.3.
func TestShl(t *testing.T) {
	for _, c := range []struct {
		a    []uint32
		n    int
		want []uint32
		ok   bool
	}{
		{[]uint32{5}, 0, []uint32{5}, true},
		{[]uint32{5, 0, 0}, 0, []uint32{5}, true},
		{[]uint32{5}, 1, []uint32{10}, true},
		{[]uint32{5}, 31, []uint32{1 << 31, 2}, true},
		{[]uint32{5}, 32, []uint32{0, 5}, true},
		{[]uint32{5, 6, 0}, 64, []uint32{0, 0, 5, 6}, true},
		{[]uint32{top, top}, 33, []uint32{0, top - 1, top, 1}, true},
		{[]uint32{top}, 4, []uint32{top - 15, 15}, true},
		{nil, 0, nil, true},
		{nil, 100, nil, true},
		{[]uint32{0, 0}, 8192, nil, true},
		{[]uint32{5}, -1, nil, false},
		{[]uint32{5}, math.MinInt, nil, false},
		{[]uint32{5}, 8193, nil, false},
		{[]uint32{5}, math.MaxInt, nil, false},
		{nil, -1, nil, false},
		{[]uint32{0}, -32, nil, false},
		{nil, 8193, nil, false},
		{[]uint32{0}, 1 << 32, nil, false},
	} {
		if got, ok := nat.Shl(c.a, c.n); !slices.Equal(got, c.want) || ok != c.ok {
			t.Errorf("Shl(%v, %d) = %v, %t; want %v, %t", c.a, c.n, got, ok, c.want, c.ok)
		}
	}
	for _, n := range []int{8191, 8192} {
		got, ok := nat.Shl([]uint32{3, 1}, n)
		if want := twoTo(n).times("4294967299"); !ok || decimalOf(got) != want {
			t.Errorf("Shl([3 1], %d) = %v, %t", n, got, ok)
		}
	}
}

// Promise 2.3.
func TestShr(t *testing.T) {
	for _, c := range []struct {
		a    []uint32
		n    int
		want []uint32
	}{
		{[]uint32{5}, 0, []uint32{5}},
		{[]uint32{5, 0, 0}, 0, []uint32{5}},
		{[]uint32{5}, -1, []uint32{5}},
		{[]uint32{5, 6, 0}, -32, []uint32{5, 6}},
		{[]uint32{5, 6}, math.MinInt, []uint32{5, 6}},
		{[]uint32{5}, 1, []uint32{2}},
		{[]uint32{5}, 2, []uint32{1}},
		{[]uint32{5}, 3, nil},
		{[]uint32{1 << 31}, 31, []uint32{1}},
		{[]uint32{1 << 31}, 32, nil},
		{[]uint32{5, 6}, 32, []uint32{6}},
		{[]uint32{5, 6, 7, 0}, 64, []uint32{7}},
		{[]uint32{5, 6, 7}, 95, nil},
		{[]uint32{5, 6, 7}, 96, nil},
		{[]uint32{5, 6, 7}, 97, nil},
		{[]uint32{5, 6, 7}, 8193, nil},
		{[]uint32{5, 6, 7}, math.MaxInt, nil},
		{[]uint32{top, top, 1}, 33, []uint32{top}},
		{[]uint32{0, 0, 1}, 1, []uint32{0, 1 << 31}},
		{nil, 0, nil},
		{nil, -5, nil},
		{nil, math.MaxInt, nil},
		{[]uint32{0, 0}, 1, nil},
	} {
		if got := nat.Shr(c.a, c.n); !slices.Equal(got, c.want) {
			t.Errorf("Shr(%v, %d) = %v; want %v", c.a, c.n, got, c.want)
		}
	}
	// Unlike Shl, Shr has no highest n.
	if got := nat.Shr(append(make([]uint32, 300), 12), 9602); !slices.Equal(got, []uint32{3}) {
		t.Errorf("Shr(12 * 2^9600, 9602) = %v; want [3]", got)
	}
}

// Promise 2.3: both against powers of two.
func TestShiftsOfNumbers(t *testing.T) {
	for _, n := range []int{0, 1, 7, 31, 32, 33, 63, 64, 65, 96, 128, 200, 256} {
		power := twoTo(n)
		for _, a := range numbers() {
			x := decimalOf(a)
			left, ok := nat.Shl(a, n)
			checkList(t, left, x.times(power), "Shl", a, n)
			if !ok {
				t.Errorf("Shl(%v, %d) = %v, false", a, n, left)
			}
			right := nat.Shr(a, n)
			checkNormalized(t, right, "Shr", a, n)
			low := decimalOf(right).times(power)
			if low.compare(x) > 0 || low.plus(power).compare(x) <= 0 {
				t.Errorf("Shr(%v, %d) = %v", a, n, right)
			}
		}
	}
}

// Promise 2.3.
func TestRoot(t *testing.T) {
	for _, c := range []struct{ a, want []uint32 }{
		{nil, nil},
		{[]uint32{0, 0}, nil},
		{[]uint32{1}, []uint32{1}},
		{[]uint32{2}, []uint32{1}},
		{[]uint32{3, 0}, []uint32{1}},
		{[]uint32{4}, []uint32{2}},
		{[]uint32{8}, []uint32{2}},
		{[]uint32{9, 0, 0}, []uint32{3}},
		{[]uint32{top}, []uint32{65535}},
		{[]uint32{0, 1}, []uint32{65536}},
		{[]uint32{top, top}, []uint32{top}},
		{[]uint32{0, top - 1}, []uint32{top - 1}},
		{[]uint32{1, top - 1}, []uint32{top}},
		{[]uint32{0, 0, 1}, []uint32{0, 1}},
		{[]uint32{top, top, top, top}, []uint32{top, top}},
	} {
		if got := nat.Root(c.a); !slices.Equal(got, c.want) {
			t.Errorf("Root(%v) = %v; want %v", c.a, got, c.want)
		}
	}
	for x := uint64(1); x <= 500; x++ {
		for square := x * x; square < (x+1)*(x+1); square++ {
			if got, _ := nat.Uint(nat.Root(nat.Of(square))); got != x {
				t.Fatalf("Root(%d) = %d; want %d", square, got, x)
			}
		}
	}
}

// Promise 2.3: at squares and next to them.
func TestRootOfSquares(t *testing.T) {
	one := []uint32{1}
	m := mixer(3)
	roots := append(numbers(), m.list(20), m.list(41), m.list(128), append(make([]uint32, 257), 1))
	for _, root := range roots {
		root = nat.Trim(root)
		if len(root) == 0 {
			continue
		}
		square := nat.Mul(root, root)
		before, _ := nat.Sub(square, one)
		less, _ := nat.Sub(root, one)
		next := nat.Add(square, nat.Add(root, root))
		for _, c := range []struct{ a, want []uint32 }{
			{square, root},
			{before, less},
			{nat.Add(square, one), root},
			{next, root},
			{nat.Add(next, one), nat.Add(root, one)},
		} {
			if got := nat.Root(append(c.a, 0)); !slices.Equal(got, c.want) {
				t.Errorf("Root(%v) = %v; want %v", c.a, got, c.want)
			}
		}
	}
}

// Promise 2.3: the root's square is at most the number, the next one's is not.
func TestRootIsLargest(t *testing.T) {
	for _, a := range numbers() {
		root := nat.Root(a)
		checkNormalized(t, root, "Root", a)
		x, r := decimalOf(a), decimalOf(root)
		next := r.plus("1")
		if r.times(r).compare(x) > 0 || next.times(next).compare(x) <= 0 {
			t.Errorf("Root(%v) = %v", a, root)
		}
	}
}
