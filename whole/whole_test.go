package whole_test

import (
	"math"
	"slices"
	"testing"

	"bushel/whole"
)

const (
	least = math.MinInt64
	most  = math.MaxInt64
)

// answer is a case of a function of two numbers that may overflow.
type answer struct {
	a, b, want int64
	ok         bool
}

func checkAnswers(t *testing.T, name string, f func(a, b int64) (int64, bool), l []answer) {
	t.Helper()
	for _, c := range l {
		if got, ok := f(c.a, c.b); got != c.want || ok != c.ok {
			t.Errorf("%s(%d, %d) = %d, %t; want %d, %t", name, c.a, c.b, got, ok, c.want, c.ok)
		}
	}
}

func checkAgainst(t *testing.T, name string, f func(a, b int64) (int64, bool), exact func(a, b int64) wide) {
	t.Helper()
	for _, a := range numbers() {
		for _, b := range numbers() {
			want, fits := exact(a, b).narrow()
			if got, ok := f(a, b); got != want || ok != fits {
				t.Errorf("%s(%d, %d) = %d, %t; want %d, %t", name, a, b, got, ok, want, fits)
			}
		}
	}
}

// Promise 1.1.
func TestAdd(t *testing.T) {
	checkAnswers(t, "Add", whole.Add, []answer{
		{2, 3, 5, true},
		{-2, -3, -5, true},
		{0, 0, 0, true},
		{most, 0, most, true},
		{most - 1, 1, most, true},
		{most, 1, 0, false},
		{1, most, 0, false},
		{most, most, 0, false},
		{1 << 62, 1 << 62, 0, false},
		{least, 0, least, true},
		{least + 1, -1, least, true},
		{least, -1, 0, false},
		{-1, least, 0, false},
		{least, least, 0, false},
		{-1 << 62, -1 << 62, least, true},
		{most, least, -1, true},
		{least, most, -1, true},
	})
	checkAgainst(t, "Add", whole.Add, func(a, b int64) wide { return widen(a).plus(widen(b)) })
}

// Promise 1.1.
func TestSub(t *testing.T) {
	checkAnswers(t, "Sub", whole.Sub, []answer{
		{2, 3, -1, true},
		{-2, -3, 1, true},
		{0, 0, 0, true},
		{most, most, 0, true},
		{least, least, 0, true},
		{most, -1, 0, false},
		{most - 1, -1, most, true},
		{0, most, least + 1, true},
		{-1, most, least, true},
		{-2, most, 0, false},
		{0, least, 0, false},
		{-1, least, most, true},
		{least, 1, 0, false},
		{least + 1, 1, least, true},
		{most, least, 0, false},
		{least, most, 0, false},
	})
	checkAgainst(t, "Sub", whole.Sub, func(a, b int64) wide { return widen(a).minus(widen(b)) })
}

// Promise 1.1.
func TestMul(t *testing.T) {
	checkAnswers(t, "Mul", whole.Mul, []answer{
		{6, 7, 42, true},
		{-6, 7, -42, true},
		{6, -7, -42, true},
		{-6, -7, 42, true},
		{0, least, 0, true},
		{least, 0, 0, true},
		{0, -5, 0, true},
		{least, 1, least, true},
		{1, least, least, true},
		{least, -1, 0, false},
		{-1, least, 0, false},
		{most, -1, -most, true},
		{least, least, 0, false},
		{most, most, 0, false},
		{1 << 31, 1 << 32, 0, false},
		{-1 << 31, 1 << 32, least, true},
		{-1 << 31, -1 << 32, 0, false},
		{1 << 32, 1 << 32, 0, false},
		{3037000499, 3037000499, 9223372030926249001, true},
		{3037000500, 3037000500, 0, false},
		{most/7 + 1, 7, 0, false},
		{most / 7, 7, most, true},
		// 2^63 + 1 and its opposite.
		{3, 3074457345618258603, 0, false},
		{-3, 3074457345618258603, 0, false},
	})
	checkAgainst(t, "Mul", whole.Mul, times)
}

// Promise 1.1.
func TestPow(t *testing.T) {
	for _, c := range []struct {
		a    int64
		n    int
		want int64
		ok   bool
	}{
		{2, 10, 1024, true},
		{-3, 3, -27, true},
		{-3, 4, 81, true},
		{5, 1, 5, true},
		{0, 0, 1, true},
		{7, 0, 1, true},
		{least, 0, 1, true},
		{most, 0, 1, true},
		{0, 1, 0, true},
		{least, 1, least, true},
		{most, 1, most, true},
		{least, 2, 0, false},
		{most, 2, 0, false},
		{2, 62, 1 << 62, true},
		{2, 63, 0, false},
		{2, 64, 0, false},
		{-2, 62, 1 << 62, true},
		{-2, 63, least, true},
		{-2, 64, 0, false},
		{-2, 65, 0, false},
		{-8, 21, least, true},
		{8, 21, 0, false},
		{-2097152, 3, least, true},
		{3, 39, 4052555153018976267, true},
		{-3, 39, -4052555153018976267, true},
		{3, 40, 0, false},
		{10, 18, 1000000000000000000, true},
		{10, 19, 0, false},
		{3037000499, 2, 9223372030926249001, true},
		{3037000500, 2, 0, false},
		{1 << 32, 2, 0, false},
		{1 << 16, 4, 0, false},
		{2, -1, 0, false},
		{1, -1, 0, false},
		{-1, -2, 0, false},
		{0, -1, 0, false},
		{1, math.MinInt, 0, false},
		{0, math.MaxInt, 0, true},
		{1, math.MaxInt, 1, true},
		{-1, math.MaxInt, -1, true},
		{-1, math.MaxInt - 1, 1, true},
		{2, math.MaxInt, 0, false},
		{-2, math.MaxInt - 1, 0, false},
	} {
		if got, ok := whole.Pow(c.a, c.n); got != c.want || ok != c.ok {
			t.Errorf("Pow(%d, %d) = %d, %t; want %d, %t", c.a, c.n, got, ok, c.want, c.ok)
		}
	}
}

// Promise 1.1: the same as multiplying n times. Beyond the range no power comes
// back, but for those of 0, 1 and -1, which never leave it.
func TestPowIsRepeatedProduct(t *testing.T) {
	for _, a := range numbers() {
		want, fits := int64(1), true
		for n := range 130 {
			if got, ok := whole.Pow(a, n); got != want || ok != fits {
				t.Errorf("Pow(%d, %d) = %d, %t; want %d, %t", a, n, got, ok, want, fits)
			}
			if fits {
				want, fits = times(want, a).narrow()
			}
		}
	}
}

// Promise 1.2.
func TestDiv(t *testing.T) {
	for _, c := range []struct {
		a, b, quotient, remainder int64
		ok                        bool
	}{
		{7, 2, 3, 1, true},
		{-7, 2, -4, 1, true},
		{7, -2, -4, -1, true},
		{-7, -2, 3, -1, true},
		{6, 2, 3, 0, true},
		{-6, 2, -3, 0, true},
		{6, -2, -3, 0, true},
		{0, 5, 0, 0, true},
		{0, -5, 0, 0, true},
		{1, most, 0, 1, true},
		{-1, most, -1, most - 1, true},
		{1, least, -1, least + 1, true},
		{-1, least, 0, -1, true},
		{least, 1, least, 0, true},
		{least, least, 1, 0, true},
		{least, most, -2, most - 1, true},
		{most, least, -1, -1, true},
		{least, 2, -1 << 62, 0, true},
		{least, -2, 1 << 62, 0, true},
		{most, -1, -most, 0, true},
		{least + 1, -1, most, 0, true},
		{least, -1, 0, 0, false},
		{0, 0, 0, 0, false},
		{1, 0, 0, 0, false},
		{-1, 0, 0, 0, false},
		{least, 0, 0, 0, false},
		{most, 0, 0, 0, false},
	} {
		quotient, remainder, ok := whole.Div(c.a, c.b)
		if quotient != c.quotient || remainder != c.remainder || ok != c.ok {
			t.Errorf("Div(%d, %d) = %d, %d, %t; want %d, %d, %t", c.a, c.b, quotient, remainder, ok, c.quotient, c.remainder, c.ok)
		}
	}
}

// Promises 1.2 and 1.5: b times the quotient and the remainder make a, and the
// remainder lies between 0 and b; only the quotient rounded down does that.
func TestDivRemainder(t *testing.T) {
	for _, a := range numbers() {
		for _, b := range numbers() {
			quotient, remainder, ok := whole.Div(a, b)
			if b == 0 || a == least && b == -1 {
				if quotient != 0 || remainder != 0 || ok {
					t.Errorf("Div(%d, %d) = %d, %d, %t; want 0, 0, false", a, b, quotient, remainder, ok)
				}
				continue
			}
			if !ok || times(b, quotient).plus(widen(remainder)) != widen(a) {
				t.Errorf("Div(%d, %d) = %d, %d, %t: these do not make %d", a, b, quotient, remainder, ok, a)
			}
			if remainder != 0 && (remainder < 0) != (b < 0) {
				t.Errorf("Div(%d, %d): the remainder %d has not the divisor's sign", a, b, remainder)
			}
			if size(remainder) >= size(b) {
				t.Errorf("Div(%d, %d): the remainder %d is too large", a, b, remainder)
			}
		}
	}
}

// size is the absolute value by another way than the package's.
func size(x int64) uint64 {
	if x < 0 {
		return uint64(-(x + 1)) + 1
	}
	return uint64(x)
}

// Promise 1.2.
func TestHalf(t *testing.T) {
	for _, c := range []struct{ a, b, want int64 }{
		{0, 0, 0},
		{1, 3, 2},
		{1, 2, 1},
		{2, 1, 1},
		{1, 0, 0},
		{-1, 0, -1},
		{0, -1, -1},
		{-1, 1, 0},
		{-1, -1, -1},
		{-1, -2, -2},
		{-3, 0, -2},
		{-3, -3, -3},
		{most, most, most},
		{most, most - 1, most - 1},
		{most, 1, 1 << 62},
		{least, least, least},
		{least, least + 1, least},
		{least, -1, -1<<62 - 1},
		{least, most, -1},
		{most, least, -1},
	} {
		if got := whole.Half(c.a, c.b); got != c.want {
			t.Errorf("Half(%d, %d) = %d; want %d", c.a, c.b, got, c.want)
		}
	}
	for _, a := range numbers() {
		for _, b := range numbers() {
			half := whole.Half(a, b)
			left := widen(a).plus(widen(b)).minus(times(half, 2))
			if left != widen(0) && left != widen(1) {
				t.Errorf("Half(%d, %d) = %d: not (a + b) / 2 rounded down", a, b, half)
			}
		}
	}
}

// Promise 1.3.
func TestAbs(t *testing.T) {
	for _, c := range []struct {
		a    int64
		want uint64
	}{
		{0, 0},
		{5, 5},
		{-5, 5},
		{-1, 1},
		{most, 1<<63 - 1},
		{-most, 1<<63 - 1},
		{least, 1 << 63},
	} {
		if got := whole.Abs(c.a); got != c.want {
			t.Errorf("Abs(%d) = %d; want %d", c.a, got, c.want)
		}
	}
	for _, a := range numbers() {
		if got := whole.Abs(a); got != size(a) {
			t.Errorf("Abs(%d) = %d; want %d", a, got, size(a))
		}
	}
}

// Promise 1.3.
func TestGcd(t *testing.T) {
	for _, c := range []struct {
		a, b int64
		want uint64
	}{
		{0, 0, 0},
		{0, 6, 6},
		{6, 0, 6},
		{0, -6, 6},
		{-6, 0, 6},
		{12, 18, 6},
		{18, 12, 6},
		{-12, 18, 6},
		{12, -18, 6},
		{-12, -18, 6},
		{7, 7, 7},
		{7, 11, 1},
		{1, least, 1},
		{0, least, 1 << 63},
		{least, 0, 1 << 63},
		{least, least, 1 << 63},
		{least, 1 << 62, 1 << 62},
		{least, 3 << 61, 1 << 61},
		{most, least, 1},
		{most, most, most},
		{most, -most, most},
		{most, 49, 49},
		// Neighbours of Fibonacci's row take Euclid's way the most steps.
		{4660046610375530309, 7540113804746346429, 1},
	} {
		if got := whole.Gcd(c.a, c.b); got != c.want {
			t.Errorf("Gcd(%d, %d) = %d; want %d", c.a, c.b, got, c.want)
		}
	}
	for _, a := range numbers() {
		for _, b := range numbers() {
			if got, want := whole.Gcd(a, b), divisor(size(a), size(b)); got != want {
				t.Errorf("Gcd(%d, %d) = %d; want %d", a, b, got, want)
			}
		}
	}
}

// divisor finds the greatest common divisor by halving and subtracting.
func divisor(x, y uint64) uint64 {
	if x == 0 || y == 0 {
		return x | y
	}
	twos := 0
	for x&1 == 0 && y&1 == 0 {
		x, y, twos = x>>1, y>>1, twos+1
	}
	for x != y {
		switch {
		case x&1 == 0:
			x >>= 1
		case y&1 == 0:
			y >>= 1
		case x > y:
			x = (x - y) >> 1
		default:
			y = (y - x) >> 1
		}
	}
	return x << twos
}

// Promise 1.3: no number above the divisor divides both.
func TestGcdIsGreatest(t *testing.T) {
	for a := int64(-40); a <= 40; a++ {
		for b := int64(-40); b <= 40; b++ {
			want := uint64(0)
			for d := int64(1); d <= 40 && (a != 0 || b != 0); d++ {
				if a%d == 0 && b%d == 0 {
					want = uint64(d)
				}
			}
			if got := whole.Gcd(a, b); got != want {
				t.Errorf("Gcd(%d, %d) = %d; want %d", a, b, got, want)
			}
		}
	}
}

// Promise 1.3.
func TestRoot(t *testing.T) {
	for _, c := range []struct {
		a, want int64
		ok      bool
	}{
		{0, 0, true},
		{1, 1, true},
		{2, 1, true},
		{3, 1, true},
		{4, 2, true},
		{15, 3, true},
		{16, 4, true},
		{17, 4, true},
		{1<<62 - 1, 1<<31 - 1, true},
		{1 << 62, 1 << 31, true},
		// The root as a float rounds up to 94906267.
		{9007199515875288, 94906266, true},
		{9223372030926249000, 3037000498, true},
		{9223372030926249001, 3037000499, true},
		{most, 3037000499, true},
		{-1, 0, false},
		{-4, 0, false},
		{-most, 0, false},
		{least, 0, false},
	} {
		if got, ok := whole.Root(c.a); got != c.want || ok != c.ok {
			t.Errorf("Root(%d) = %d, %t; want %d, %t", c.a, got, ok, c.want, c.ok)
		}
	}
}

// Promise 1.3: the root's square is at most a, and that of the next number is
// not; at and around every kind of square.
func TestRootIsLargest(t *testing.T) {
	l := numbers()
	for x := int64(2); x <= 3000; x++ {
		l = append(l, x*x-1, x*x, x*x+1)
	}
	for x := int64(3037000499 - 3000); x <= 3037000499; x++ {
		l = append(l, x*x-1, x*x, x*x+1)
	}
	for _, a := range l {
		root, ok := whole.Root(a)
		if a < 0 {
			if root != 0 || ok {
				t.Errorf("Root(%d) = %d, %t; want 0, false", a, root, ok)
			}
			continue
		}
		above := widen(a).minus(times(root, root)).negative()
		below := !widen(a).minus(times(root+1, root+1)).negative()
		if !ok || root < 0 || above || below {
			t.Errorf("Root(%d) = %d, %t: not the largest", a, root, ok)
		}
	}
}

// Promise 1.4.
func TestSum(t *testing.T) {
	for _, c := range []struct {
		l    []int64
		want int64
		ok   bool
	}{
		{nil, 0, true},
		{[]int64{}, 0, true},
		{[]int64{5}, 5, true},
		{[]int64{least}, least, true},
		{[]int64{most}, most, true},
		{[]int64{1, -2, 3, -4}, -2, true},
		{[]int64{most, 1, -1}, most, true},
		{[]int64{1, most, -1}, most, true},
		{[]int64{least, -1, 1}, least, true},
		{[]int64{-1, least, 1}, least, true},
		{[]int64{most, most, least, least, 2}, 0, true},
		{[]int64{most, most, most, least, least, least}, -3, true},
		{[]int64{least, least, most, most}, -2, true},
		{[]int64{least, least, most, most, 1, 1}, 0, true},
		{[]int64{most, 1}, 0, false},
		{[]int64{1, most}, 0, false},
		{[]int64{least, -1}, 0, false},
		{[]int64{most, most}, 0, false},
		{[]int64{least, least}, 0, false},
		{[]int64{least, least, 1}, 0, false},
		{[]int64{least, least, least, least}, 0, false},
		{[]int64{most, most, 2}, 0, false},
		{[]int64{most, most, least}, most - 1, true},
	} {
		before := slices.Clone(c.l)
		if got, ok := whole.Sum(c.l); got != c.want || ok != c.ok {
			t.Errorf("Sum(%d) = %d, %t; want %d, %t", c.l, got, ok, c.want, c.ok)
		}
		if !slices.Equal(c.l, before) {
			t.Errorf("Sum changed its argument from %d to %d", before, c.l)
		}
	}
}

// Promise 1.4: many intermediate results that do not fit, on either side.
func TestSumOfMany(t *testing.T) {
	const n = 100000
	var l []int64
	for range n {
		l = append(l, most)
	}
	if got, ok := whole.Sum(l); got != 0 || ok {
		t.Errorf("Sum of %d times 2^63 - 1 = %d, %t; want 0, false", n, got, ok)
	}
	for range n {
		l = append(l, least)
	}
	if got, ok := whole.Sum(l); got != -n || !ok {
		t.Errorf("Sum of both ends, %d times = %d, %t; want %d, true", n, got, ok, -n)
	}
	slices.Reverse(l)
	if got, ok := whole.Sum(l); got != -n || !ok {
		t.Errorf("Sum of both ends, %d times, the other way round = %d, %t; want %d, true", n, got, ok, -n)
	}
}

// Promise 1.4: for two numbers the sum is that of Add.
func TestSumOfTwo(t *testing.T) {
	for _, a := range numbers() {
		for _, b := range numbers() {
			want, fits := widen(a).plus(widen(b)).narrow()
			if got, ok := whole.Sum([]int64{a, b}); got != want || ok != fits {
				t.Errorf("Sum(%d, %d) = %d, %t; want %d, %t", a, b, got, ok, want, fits)
			}
		}
	}
}

// Promise 1.5.
func TestSumInAnyOrder(t *testing.T) {
	for _, c := range []struct {
		l    []int64
		want int64
		ok   bool
	}{
		{[]int64{1, -2, 30, -400, 5000}, 4629, true},
		{[]int64{most, 1, -1}, most, true},
		{[]int64{most, most, least, least, 2}, 0, true},
		{[]int64{most, most, least, 1, 1}, 0, false},
		{[]int64{least, -1, -1, most, 2}, -1, true},
		{[]int64{least, least, most, -5}, 0, false},
		{[]int64{most, most, 1 << 62, -1 << 62, least}, most - 1, true},
	} {
		for _, l := range orders(c.l) {
			if got, ok := whole.Sum(l); got != c.want || ok != c.ok {
				t.Errorf("Sum(%d) = %d, %t; want %d, %t", l, got, ok, c.want, c.ok)
			}
		}
	}
}

// orders returns the list in each of its orders.
func orders(l []int64) [][]int64 {
	if len(l) == 0 {
		return [][]int64{nil}
	}
	var all [][]int64
	for i, x := range l {
		rest := slices.Delete(slices.Clone(l), i, i+1)
		for _, o := range orders(rest) {
			all = append(all, append(o, x))
		}
	}
	return all
}
