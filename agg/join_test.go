package agg_test

import (
	"math"
	"slices"
	"testing"

	"bushel/agg"
	"bushel/api"
)

// checkJoin fails if Join has not this cell and this error.
func checkJoin(t *testing.T, a, b, want api.Cell, wanted api.Errno) {
	t.Helper()
	got, errno := agg.Join(a, b)
	checkCell(t, "Join("+textOf(a)+", "+textOf(b)+")", got, errno, want, wanted)
}

// checkJoinDefined fails if Join is not as defined, in both orders. It returns the error
// of the first one.
func checkJoinDefined(t *testing.T, a, b api.Cell) api.Errno {
	t.Helper()
	want, errno := defineJoin(b, a)
	checkJoin(t, b, a, want, errno)
	want, errno = defineJoin(a, b)
	checkJoin(t, a, b, want, errno)
	return errno
}

// Promise 14.2: the chapter's example.
func TestJoinExample(t *testing.T) {
	s := made(1, 0, 2)
	a, _ := agg.One(s, 0, api.Fact{Codes: []int{1}, Ints: []int64{3}})
	b, _ := agg.One(s, 0, api.Fact{Codes: []int{0}, Ints: []int64{-5}})
	want := api.Cell{Count: 2, Ints: []api.Whole{{Sum: -2, Abs: 8, Squares: []uint32{34}, Min: -5, Max: 3}}}
	checkJoin(t, a, b, want, api.OK)
	checkJoin(t, b, a, want, api.OK)
}

// Promise 14.2: all numbers of a cell at once, written out.
func TestJoinWritten(t *testing.T) {
	a := plain()
	b := api.Cell{
		Count: 40,
		Ints: []api.Whole{
			{Sum: 100, Abs: 200, Squares: []uint32{1, 2}, Min: -6, Max: 0},
			{Sum: -1000, Abs: 2000, Squares: nil, Min: 9, Max: 22},
		},
		Nums: []api.Real{
			{Sum: sumOf(0.125), Min: 0.3, Max: 0.4},
			{Sum: sumOf(minus0), Min: -8, Max: infinity},
		},
	}
	a.Key, b.Key = 23, 23
	want := api.Cell{
		Key:   23,
		Count: 43,
		Ints: []api.Whole{
			{Sum: 96, Abs: 206, Squares: []uint32{15, 17, 16}, Min: -6, Max: 1},
			{Sum: -970, Abs: 2031, Squares: []uint32{33}, Min: 8, Max: 22},
		},
		Nums: []api.Real{
			{Sum: sumOf(0.5, 0.25, 0.125), Min: 0.25, Max: 0.5},
			{Sum: sumOf(-7, 100, minus0), Min: -8, Max: infinity},
		},
	}
	checkJoin(t, a, b, want, api.OK)
	checkJoin(t, b, a, want, api.OK)
}

// Promise 14.2: other Keys, and other numbers of Ints or Nums.
func TestJoinArg(t *testing.T) {
	for _, change := range []func(c *api.Cell){
		func(c *api.Cell) { c.Key++ },
		func(c *api.Cell) { c.Key = 1 << 32 },
		func(c *api.Cell) { c.Key = 1 << 63 },
		func(c *api.Cell) { c.Key = math.MaxUint64 },
		func(c *api.Cell) { c.Ints = append(c.Ints, api.Whole{}) },
		func(c *api.Cell) { c.Ints = c.Ints[1:] },
		func(c *api.Cell) { c.Ints = nil },
		func(c *api.Cell) { c.Ints = []api.Whole{} },
		func(c *api.Cell) { c.Nums = append(c.Nums, api.Real{Sum: sumOf()}) },
		func(c *api.Cell) { c.Nums = c.Nums[:1] },
		func(c *api.Cell) { c.Nums = nil },
		func(c *api.Cell) { c.Nums = []api.Real{} },
		// What else is wrong comes later.
		func(c *api.Cell) { c.Key, c.Count = 1, most },
		func(c *api.Cell) { c.Ints, c.Count = nil, most },
		func(c *api.Cell) { c.Key, c.Ints[0].Sum = 1, least },
		func(c *api.Cell) { c.Key, c.Nums[0].Sum = 1, nil },
		func(c *api.Cell) { c.Nums = append(c.Nums, api.Real{}) },
		func(c *api.Cell) { c.Nums = []api.Real{{}} },
	} {
		c := plain()
		change(&c)
		checkJoin(t, plain(), c, api.Cell{}, api.ErrArg)
		checkJoin(t, c, plain(), api.Cell{}, api.ErrArg)
	}
}

// Promise 14.2: no list and an empty one make no difference.
func TestJoinEmpty(t *testing.T) {
	none, empty := api.Cell{Count: 1}, api.Cell{Count: 2, Ints: []api.Whole{}, Nums: []api.Real{}}
	checkJoin(t, none, empty, api.Cell{Count: 3}, api.OK)
	checkJoin(t, empty, none, api.Cell{Count: 3}, api.OK)
	checkJoin(t, api.Cell{}, api.Cell{}, api.Cell{}, api.OK)
	a, b := single(api.Whole{Sum: 1}), single(api.Whole{Squares: []uint32{}})
	b.Nums = []api.Real{}
	checkJoin(t, a, b, api.Cell{Count: 2, Ints: []api.Whole{{Sum: 1}}}, api.OK)
	checkJoin(t, b, a, api.Cell{Count: 2, Ints: []api.Whole{{Sum: 1}}}, api.OK)
	checkJoin(t, api.Cell{Key: math.MaxUint64}, api.Cell{Key: math.MaxUint64}, api.Cell{Key: math.MaxUint64}, api.OK)
}

// sums holds pairs of integers, and whether their sum fits into an int64.
func sums() []struct {
	a, b int64
	fits bool
} {
	return []struct {
		a, b int64
		fits bool
	}{
		{most - 1, 1, true},
		{most, 0, true},
		{1 << 62, 1<<62 - 1, true},
		{most, 1, false},
		{1 << 62, 1 << 62, false},
		{most, most, false},
		{least + 1, -1, true},
		{least, 0, true},
		{-1 << 62, -1 << 62, true},
		{least, -1, false},
		{least + 1, -2, false},
		{least, least, false},
		{least, most, true},
		{most, -1, true},
		{least, 1, true},
	}
}

// Promise 14.2: sums at both ends and beyond: of Count, and in each place of Sum and of
// Abs.
func TestJoinOver(t *testing.T) {
	places := []func(c *api.Cell) *int64{func(c *api.Cell) *int64 { return &c.Count }}
	for i := range plain().Ints {
		places = append(places,
			func(c *api.Cell) *int64 { return &c.Ints[i].Sum },
			func(c *api.Cell) *int64 { return &c.Ints[i].Abs },
		)
	}
	for _, place := range places {
		for _, x := range sums() {
			a, b := plain(), plain()
			*place(&a), *place(&b) = x.a, x.b
			errno := checkJoinDefined(t, a, b)
			if x.fits != (errno == api.OK) || !x.fits && errno != api.ErrOver {
				t.Errorf("the definition has the error %d for %d + %d", errno, x.a, x.b)
			}
		}
	}
}

// Promise 14.2: each sum is of its own number, also at the ends.
func TestJoinSumsFit(t *testing.T) {
	a := single(api.Whole{Sum: least, Abs: most, Min: most, Max: least})
	b := single(api.Whole{Sum: 5, Abs: -7, Min: least, Max: most})
	want := api.Cell{Count: 2, Ints: []api.Whole{{Sum: least + 5, Abs: most - 7, Min: least, Max: most}}}
	checkJoin(t, a, b, want, api.OK)
	checkJoin(t, b, a, want, api.OK)
	// Min and Max are not added.
	a = single(api.Whole{Min: most, Max: most})
	checkJoin(t, a, a, api.Cell{Count: 2, Ints: []api.Whole{{Min: most, Max: most}}}, api.OK)
	a = single(api.Whole{Min: least, Max: least})
	checkJoin(t, a, a, api.Cell{Count: 2, Ints: []api.Whole{{Min: least, Max: least}}}, api.OK)
}

// Promise 14.2: Squares of no words, of one and of many, with a carry through all words
// and with trailing zero words. The result is normalized.
func TestJoinSquares(t *testing.T) {
	ones := func(n int) []uint32 { return slices.Repeat([]uint32{math.MaxUint32}, n) }
	for _, c := range []struct{ a, b, want []uint32 }{
		{nil, nil, nil},
		{nil, []uint32{}, nil},
		{nil, []uint32{5}, []uint32{5}},
		{[]uint32{2}, []uint32{3}, []uint32{5}},
		{[]uint32{1, 2, 3}, []uint32{10}, []uint32{11, 2, 3}},
		{[]uint32{1, 2, 3}, []uint32{10, 20, 30}, []uint32{11, 22, 33}},
		{ones(1), []uint32{1}, []uint32{0, 1}},
		{ones(1), ones(1), []uint32{math.MaxUint32 - 1, 1}},
		{ones(3), []uint32{1}, []uint32{0, 0, 0, 1}},
		{ones(6), []uint32{1}, []uint32{0, 0, 0, 0, 0, 0, 1}},
		{ones(7), []uint32{1}, []uint32{0, 0, 0, 0, 0, 0, 0, 1}},
		{ones(50), []uint32{1}, append(make([]uint32, 50), 1)},
		{[]uint32{0, 0}, []uint32{0}, nil},
		{[]uint32{0, 0}, nil, nil},
		{[]uint32{1, 0, 0}, []uint32{2}, []uint32{3}},
		{[]uint32{1, 0, 0}, []uint32{2, 0, 0, 0, 0, 0, 0, 0, 0}, []uint32{3}},
		{append(ones(2), 0, 0, 0), []uint32{1, 0}, []uint32{0, 0, 1}},
	} {
		a, b := single(api.Whole{Squares: c.a}), single(api.Whole{Squares: c.b})
		want := api.Cell{Count: 2, Ints: []api.Whole{{Squares: c.want}}}
		checkJoin(t, a, b, want, api.OK)
		checkJoin(t, b, a, want, api.OK)
		checkJoinDefined(t, a, b)
	}
}

// Promise 14.2: Sums of Nums that are no encoding in the first, the second and both
// cells, in each place.
func TestJoinRot(t *testing.T) {
	for i := range plain().Nums {
		for _, bad := range noSums() {
			c, zero := plain(), plain()
			c.Nums[i].Sum = bad
			zero.Nums[i].Sum = sumOf()
			checkJoin(t, plain(), c, api.Cell{}, api.ErrRot)
			checkJoin(t, c, plain(), api.Cell{}, api.ErrRot)
			checkJoin(t, c, zero, api.Cell{}, api.ErrRot)
			checkJoin(t, c, c, api.Cell{}, api.ErrRot)
			for _, other := range noSums() {
				o := plain()
				o.Nums[i].Sum = other
				checkJoin(t, c, o, api.Cell{}, api.ErrRot)
			}
		}
	}
}

// Promise 14.2: sums whose total would have 2241 bits, and those whose total has 2240.
func TestJoinTooLong(t *testing.T) {
	half := append([]byte{16, 69, 1}, 128, 0, 0, 0)
	quarter := append([]byte{16, 69, 1}, 64, 0, 0, 0)
	minus := append([]byte{48, 69, 1}, 128, 0, 0, 0)
	unit := []byte{16, 0, 1, 0, 0, 0, 1}
	minusUnit := []byte{48, 0, 1, 0, 0, 0, 1}
	for _, c := range []struct {
		a, b []byte
		want api.Errno
	}{
		{half, half, api.ErrOver},
		{half, quarter, api.OK},
		{quarter, quarter, api.OK},
		{half, minus, api.OK},
		{minus, minus, api.ErrOver},
		{longestSum(), unit, api.ErrOver},
		{longestSum(), minusUnit, api.OK},
		{longestSum(), longestSum(), api.ErrOver},
		{longestSum(), sumOf(1), api.ErrOver},
		{longestSum(), sumOf(-largest), api.OK},
		{longestSum(), sumOf(nan), api.OK},
		{longestSum(), sumOf(infinity, 0), api.OK},
	} {
		for i := range 2 {
			a, b := plain(), plain()
			a.Nums[i].Sum, b.Nums[i].Sum = c.a, c.b
			if errno := checkJoinDefined(t, a, b); errno != c.want {
				t.Errorf("the definition has the error %d for %d and %d", errno, c.a, c.b)
			}
		}
	}
}

// Promise 14.2: any two floats as Min and as Max, the one of the first cell if both are
// equal: not even the bits of a NaN are those of the second one.
func TestJoinFloats(t *testing.T) {
	for _, x := range floats() {
		for _, y := range floats() {
			a, b := lone(api.Real{Sum: sumOf(x), Min: x, Max: x}), lone(api.Real{Sum: sumOf(y), Min: y, Max: y})
			want := api.Cell{Count: 2, Nums: []api.Real{{Sum: sumOf(x, y), Min: x, Max: x}}}
			if defineBefore(y, x) {
				want.Nums[0].Min = y
			}
			if defineBefore(x, y) {
				want.Nums[0].Max = y
			}
			checkJoin(t, a, b, want, api.OK)
			got, _ := agg.Join(a, b)
			r, w := got.Nums[0], want.Nums[0]
			if math.Float64bits(r.Min) != math.Float64bits(w.Min) || math.Float64bits(r.Max) != math.Float64bits(w.Max) {
				t.Errorf("the bits of Min and Max of %v and %v are not those of %v", x, y, w)
			}
		}
	}
}

// Promise 14.2: 0, -0 and NaN, written out.
func TestJoinZerosAndNaN(t *testing.T) {
	zero, minus := lone(api.Real{Sum: sumOf(0)}), lone(api.Real{Sum: sumOf(minus0), Min: minus0, Max: minus0})
	want := api.Cell{Count: 2, Nums: []api.Real{{Sum: []byte{24, 0, 0}, Min: minus0, Max: 0}}}
	checkJoin(t, zero, minus, want, api.OK)
	checkJoin(t, minus, zero, want, api.OK)
	checkJoin(t, minus, minus, api.Cell{Count: 2, Nums: []api.Real{{Sum: []byte{8, 0, 0}, Min: minus0, Max: minus0}}}, api.OK)
	one, no := lone(api.Real{Sum: sumOf(infinity), Min: infinity, Max: infinity}), lone(api.Real{Sum: sumOf(nan), Min: nan, Max: nan})
	want = api.Cell{Count: 2, Nums: []api.Real{{Sum: []byte{3, 0, 0}, Min: infinity, Max: nan}}}
	checkJoin(t, one, no, want, api.OK)
	checkJoin(t, no, one, want, api.OK)
	// Min and Max are taken apart, also where Max precedes Min.
	a, b := lone(api.Real{Sum: sumOf(), Min: 5, Max: 1}), lone(api.Real{Sum: sumOf(), Min: 4, Max: 0})
	checkJoin(t, a, b, api.Cell{Count: 2, Nums: []api.Real{{Sum: sumOf(), Min: 4, Max: 1}}}, api.OK)
}

// Promise 14.2: cells that are not valid are combined all the same.
func TestJoinNotValid(t *testing.T) {
	a := single(api.Whole{Sum: 9, Abs: -1, Squares: []uint32{1, 0}, Min: 7, Max: -7})
	a.Count = -5
	want := single(api.Whole{Sum: 18, Abs: -2, Squares: []uint32{2}, Min: 7, Max: -7})
	want.Count = -10
	checkJoin(t, a, a, want, api.OK)
	long := api.Cell{Key: math.MaxUint64, Ints: make([]api.Whole, 1000), Nums: slices.Repeat([]api.Real{{Sum: sumOf(1)}}, 1000)}
	long.Ints[999].Sum = 1
	checkJoinDefined(t, long, long)
	m := mixer(5)
	for _, c := range notRight(&m) {
		checkJoinDefined(t, c, c)
		checkJoinDefined(t, c, plain())
	}
}

// faults returns changes after which two cells cannot be joined, in the chapter's order.
func faults() []struct {
	change func(a, b *api.Cell)
	want   api.Errno
} {
	over := func(x, y *int64) { *x, *y = most, 1 }
	return []struct {
		change func(a, b *api.Cell)
		want   api.Errno
	}{
		{func(a, b *api.Cell) { a.Key = 1 }, api.ErrArg},
		{func(a, b *api.Cell) { over(&a.Count, &b.Count) }, api.ErrOver},
		{func(a, b *api.Cell) { over(&a.Ints[0].Sum, &b.Ints[0].Sum) }, api.ErrOver},
		{func(a, b *api.Cell) { over(&a.Ints[0].Abs, &b.Ints[0].Abs) }, api.ErrOver},
		{func(a, b *api.Cell) { over(&a.Ints[1].Sum, &b.Ints[1].Sum) }, api.ErrOver},
		{func(a, b *api.Cell) { over(&a.Ints[1].Abs, &b.Ints[1].Abs) }, api.ErrOver},
		{func(a, b *api.Cell) { a.Nums[0].Sum = nil }, api.ErrRot},
		{func(a, b *api.Cell) { b.Nums[0].Sum = []byte{64} }, api.ErrRot},
		{func(a, b *api.Cell) { a.Nums[1].Sum, b.Nums[1].Sum = longestSum(), longestSum() }, api.ErrOver},
		{func(a, b *api.Cell) { b.Nums[1].Sum = append(sumOf(1), 0) }, api.ErrRot},
	}
}

// Promise 14.2: of several errors the first one, in the chapter's order: a Count that
// does not fit comes before a Sum of Nums that is no encoding.
func TestJoinOrder(t *testing.T) {
	for i, first := range faults() {
		for _, second := range faults()[i:] {
			a, b := plain(), plain()
			second.change(&a, &b)
			first.change(&a, &b)
			checkJoin(t, a, b, api.Cell{}, first.want)
		}
	}
	a, b := plain(), plain()
	a.Nums[0].Sum, b.Nums[0].Sum = longestSum(), longestSum()
	a.Nums[1].Sum = nil
	checkJoin(t, a, b, api.Cell{}, api.ErrOver)
	a.Nums[0].Sum, b.Nums[0].Sum = longestSum()[:9], longestSum()
	checkJoin(t, a, b, api.Cell{}, api.ErrRot)
	a, b = plain(), plain()
	a.Count, b.Count, a.Nums[0].Sum = most, 1, nil
	checkJoin(t, a, b, api.Cell{}, api.ErrOver)
	a.Count = 1
	checkJoin(t, a, b, api.Cell{}, api.ErrRot)
}

// Promise 14.2: mixed cells, valid and not, of which all errors come often.
func TestJoinMixed(t *testing.T) {
	m := mixer(6)
	count := map[api.Errno]int{}
	for range 20000 {
		s := of(&m, samples())
		mask := of(&m, sets(s))
		a, b := m.cell(s, mask), m.cell(s, mask)
		if m.below(8) > 0 {
			b.Key = a.Key
		}
		if m.below(2) == 0 {
			// Without what most often does not fit.
			a.Count, b.Count = 1, 2
			a.Ints, b.Ints = nil, nil
		}
		for range m.below(4) {
			m.spoil(&b)
		}
		count[checkJoinDefined(t, a, b)]++
	}
	for _, errno := range []api.Errno{api.OK, api.ErrArg, api.ErrOver, api.ErrRot} {
		if count[errno] < 300 {
			t.Errorf("only %d mixed cells have the error %d", count[errno], errno)
		}
	}
}
