package cells_test

import (
	"math"
	"slices"
	"testing"

	"bushel/api"
	"bushel/cells"
)

// checkFold fails if Fold has not this list and this error.
func checkFold(t *testing.T, s api.Schema, mask uint32, l []api.Fact, want []api.Cell, wanted api.Errno) {
	t.Helper()
	got, errno := cells.Fold(s, mask, l)
	checkList(t, got, errno, want, wanted, "Fold", s, mask, len(l), brief(l))
}

// checkFoldDefined fails if Fold is not as defined. It returns the list and the error.
func checkFoldDefined(t *testing.T, s api.Schema, mask uint32, l []api.Fact) ([]api.Cell, api.Errno) {
	t.Helper()
	want, wanted := defineFold(s, mask, l)
	checkFold(t, s, mask, l, want, wanted)
	return want, wanted
}

// coded returns facts without numbers that have these codes of a single dimension.
func coded(codes ...int) []api.Fact {
	var l []api.Fact
	for _, c := range codes {
		l = append(l, api.Fact{Codes: []int{c}})
	}
	return l
}

// Promise 15.2: the chapter's example.
func TestFoldExample(t *testing.T) {
	s := made(0, 0, 2)
	checkFold(t, s, 1, coded(1, 0, 1), []api.Cell{{Key: 0, Count: 1}, {Key: 1, Count: 2}}, api.OK)
	checkFold(t, s, 0, coded(1, 0, 1), []api.Cell{{Key: 0, Count: 3}}, api.OK)
}

// writtenFacts are facts of made(1, 1, 2, 3).
func writtenFacts() []api.Fact {
	return []api.Fact{
		{Codes: []int{1, 2}, Ints: []int64{3}, Nums: []float64{0.1}},
		{Codes: []int{0, 1}, Ints: []int64{7}, Nums: []float64{minus0}},
		{Codes: []int{1, 2}, Ints: []int64{-5}, Nums: []float64{0.2}},
		{Codes: []int{1, 0}, Ints: []int64{0}, Nums: []float64{nan}},
		{Codes: []int{0, 1}, Ints: []int64{1 << 32}, Nums: []float64{0}},
		{Codes: []int{1, 2}, Ints: []int64{1}, Nums: []float64{-0.3}},
	}
}

// Promise 15.2: all numbers of the cells, written out, for each set.
func TestFoldWritten(t *testing.T) {
	s := made(1, 1, 2, 3)
	cell := func(key uint64, count int64, w api.Whole, r api.Real) api.Cell {
		return api.Cell{Key: key, Count: count, Ints: []api.Whole{w}, Nums: []api.Real{r}}
	}
	whole := api.Whole{Sum: 7 + 1<<32, Abs: 7 + 1<<32, Squares: []uint32{49, 0, 1}, Min: 7, Max: 1 << 32}
	zeros := api.Real{Sum: sumOf(minus0, 0), Min: minus0, Max: 0}
	three := api.Whole{Sum: -1, Abs: 9, Squares: []uint32{35}, Min: -5, Max: 3}
	tenths := api.Real{Sum: sumOf(0.1, 0.2, -0.3), Min: -0.3, Max: 0.2}
	none := api.Real{Sum: sumOf(nan), Min: nan, Max: nan}
	l := writtenFacts()
	checkFold(t, s, 3, l, []api.Cell{cell(1, 2, whole, zeros), cell(3, 1, api.Whole{}, none), cell(5, 3, three, tenths)}, api.OK)
	checkFold(t, s, 2, l, []api.Cell{cell(0, 1, api.Whole{}, none), cell(1, 2, whole, zeros), cell(2, 3, three, tenths)}, api.OK)
	all := api.Real{Sum: sumOf(0.1, 0.2, -0.3, nan), Min: -0.3, Max: nan}
	one := cell(1, 4, api.Whole{Sum: -1, Abs: 9, Squares: []uint32{35}, Min: -5, Max: 3}, all)
	checkFold(t, s, 1, l, []api.Cell{cell(0, 2, whole, zeros), one}, api.OK)
	total := api.Whole{Sum: 6 + 1<<32, Abs: 16 + 1<<32, Squares: []uint32{84, 0, 1}, Min: -5, Max: 1 << 32}
	all.Sum = sumOf(0.1, 0.2, -0.3, nan, 0, minus0)
	checkFold(t, s, 0, l, []api.Cell{cell(0, 6, total, all)}, api.OK)
}

// Promise 15.2: no facts make no cells, for each set.
func TestFoldNothing(t *testing.T) {
	for _, s := range samples() {
		for _, mask := range sets(s) {
			checkFold(t, s, mask, nil, nil, api.OK)
			checkFold(t, s, mask, []api.Fact{}, nil, api.OK)
		}
	}
}

// Promise 15.2: one fact, for each set.
func TestFoldOne(t *testing.T) {
	m := mixer(7)
	for _, s := range samples() {
		for _, mask := range sets(s) {
			l, errno := checkFoldDefined(t, s, mask, m.facts(s, 1))
			if errno != api.OK || len(l) != 1 || l[0].Count != 1 {
				t.Fatalf("the definition has the error %d and %d cells", errno, len(l))
			}
		}
	}
}

// Promise 15.2: 200 facts and 201, of all kinds of keys, and many more.
func TestFoldMany(t *testing.T) {
	m := mixer(8)
	for _, s := range samples() {
		for _, mask := range []uint32{0, 1, full(s)} {
			l, errno := checkFoldDefined(t, s, mask, m.facts(s, 200))
			if errno != api.OK || len(l) == 0 {
				t.Fatalf("the definition has the error %d and %d cells", errno, len(l))
			}
			checkFold(t, s, mask, m.facts(s, 201), nil, api.ErrMany)
			checkFold(t, s, mask, make([]api.Fact, 201), nil, api.ErrMany)
			checkFold(t, s, mask, make([]api.Fact, 456), nil, api.ErrMany)
			checkFold(t, s, mask, make([]api.Fact, 1<<16), nil, api.ErrMany)
		}
	}
	s := made(0, 0, 1)
	checkFold(t, s, 1, slices.Repeat(coded(0), 199), []api.Cell{{Count: 199}}, api.OK)
	checkFold(t, s, 1, slices.Repeat(coded(0), 200), []api.Cell{{Count: 200}}, api.OK)
	checkFold(t, s, 1, slices.Repeat(coded(0), 201), nil, api.ErrMany)
}

// Promise 15.2: facts that all have one key, and facts that all have other keys, in
// increasing, decreasing and mixed order.
func TestFoldKeys(t *testing.T) {
	s := made(0, 0, 4096)
	var codes []int
	var want []api.Cell
	for i := range 200 {
		codes = append(codes, 20*i)
		want = append(want, api.Cell{Key: uint64(20 * i), Count: 1})
	}
	checkFold(t, s, 1, coded(codes...), want, api.OK)
	slices.Reverse(codes)
	checkFold(t, s, 1, coded(codes...), want, api.OK)
	for i := range codes {
		j := i * 77 % 200
		codes[i], codes[j] = codes[j], codes[i]
	}
	checkFold(t, s, 1, coded(codes...), want, api.OK)
	checkFold(t, s, 1, slices.Repeat(coded(4095), 200), []api.Cell{{Key: 4095, Count: 200}}, api.OK)
	checkFold(t, s, 0, coded(codes...), []api.Cell{{Count: 200}}, api.OK)
}

// Promise 15.2: keys of more than 32 bits.
func TestFoldGreatKeys(t *testing.T) {
	s := made(0, 0, 4096, 4096, 4096, 16)
	l := []api.Fact{
		{Codes: []int{4095, 4095, 4095, 15}}, {Codes: []int{0, 0, 0, 1}}, {Codes: []int{256, 0, 0, 1}}, {Codes: []int{4095, 4095, 4095, 15}},
		{Codes: []int{0, 0, 0, 0}},
	}
	checkFold(t, s, 15, l, []api.Cell{{Key: 0, Count: 1}, {Key: 1, Count: 1}, {Key: 1<<36 + 1, Count: 1}, {Key: 1<<40 - 1, Count: 2}}, api.OK)
}

// Promise 15.2: the result is in order each time, however the facts are gone through.
func TestFoldAgain(t *testing.T) {
	m := mixer(9)
	s := made(1, 1, 50, 50)
	l := m.facts(s, 200)
	want, _ := defineFold(s, 3, l)
	for range 50 {
		checkFold(t, s, 3, l, want, api.OK)
	}
}

// Promise 15.2: schemas that are not valid, without facts, with facts and with too many,
// and whatever the set is.
func TestFoldArg(t *testing.T) {
	for _, s := range notValid() {
		f := api.Fact{Codes: make([]int, len(s.Dims)), Ints: make([]int64, len(s.Ints)), Nums: make([]float64, len(s.Nums))}
		for _, mask := range []uint32{0, 1, 3, 1 << 6, 1 << 31, math.MaxUint32} {
			checkFold(t, s, mask, nil, nil, api.ErrArg)
			checkFold(t, s, mask, []api.Fact{f}, nil, api.ErrArg)
			checkFold(t, s, mask, make([]api.Fact, 201), nil, api.ErrArg)
		}
	}
}

// Promise 15.2: sets with a bit that is not a dimension, without facts, with facts, with
// facts that are not valid, and with too many.
func TestFoldNone(t *testing.T) {
	m := mixer(10)
	for _, s := range samples() {
		for _, mask := range noSets(s) {
			checkFold(t, s, mask, nil, nil, api.ErrNone)
			checkFold(t, s, mask, m.facts(s, 3), nil, api.ErrNone)
			checkFold(t, s, mask, []api.Fact{{}}, nil, api.ErrNone)
			checkFold(t, s, mask, m.facts(s, 201), nil, api.ErrNone)
		}
	}
}

// Promise 15.2: one fact that is not valid, or that has -2^63, in each place.
func TestFoldBadFact(t *testing.T) {
	s := made(1, 1, 2, 3)
	good := api.Fact{Codes: []int{1, 2}, Ints: []int64{3}, Nums: []float64{0.5}}
	for _, c := range []struct {
		bad  api.Fact
		want api.Errno
	}{
		{api.Fact{}, api.ErrMany},
		{api.Fact{Codes: []int{1}, Ints: []int64{3}, Nums: []float64{0.5}}, api.ErrMany},
		{api.Fact{Codes: []int{1, 2, 0}, Ints: []int64{3}, Nums: []float64{0.5}}, api.ErrMany},
		{api.Fact{Codes: []int{1, 2}, Nums: []float64{0.5}}, api.ErrMany},
		{api.Fact{Codes: []int{1, 2}, Ints: []int64{3, 4}, Nums: []float64{0.5}}, api.ErrMany},
		{api.Fact{Codes: []int{1, 2}, Ints: []int64{3}}, api.ErrMany},
		{api.Fact{Codes: []int{9, 9}, Ints: []int64{3}}, api.ErrMany},
		{api.Fact{Codes: []int{2, 2}, Ints: []int64{3}, Nums: []float64{0.5}}, api.ErrRange},
		{api.Fact{Codes: []int{1, -1}, Ints: []int64{3}, Nums: []float64{0.5}}, api.ErrRange},
		{api.Fact{Codes: []int{1, 3}, Ints: []int64{3}, Nums: []float64{0.5}}, api.ErrRange},
		{api.Fact{Codes: []int{1, math.MaxInt}, Ints: []int64{least}, Nums: []float64{0.5}}, api.ErrRange},
		{api.Fact{Codes: []int{1, 2}, Ints: []int64{least}, Nums: []float64{0.5}}, api.ErrOver},
	} {
		// A code that is out of its range counts also where its dimension is not in the
		// set.
		for _, mask := range sets(s) {
			checkFold(t, s, mask, []api.Fact{c.bad}, nil, c.want)
			for i := range 5 {
				l := slices.Repeat([]api.Fact{good}, 5)
				l[i] = c.bad
				checkFold(t, s, mask, l, nil, c.want)
			}
		}
	}
}

// Promise 15.2: sums that do not fit together with the previous facts of the same key,
// and those that do.
func TestFoldOver(t *testing.T) {
	s := made(2, 0, 2)
	f := func(code int, x, y int64) api.Fact { return api.Fact{Codes: []int{code}, Ints: []int64{x, y}} }
	checkFold(t, s, 1, []api.Fact{f(0, most, 0), f(0, 1, 0)}, nil, api.ErrOver)
	checkFold(t, s, 1, []api.Fact{f(0, 0, most), f(0, 0, -1)}, nil, api.ErrOver)
	checkFold(t, s, 1, []api.Fact{f(0, least+1, 0), f(0, -1, 0)}, nil, api.ErrOver)
	checkFold(t, s, 1, []api.Fact{f(0, 1<<62, 0), f(1, 5, 5), f(0, 1<<61, 0), f(1, 6, 6), f(0, -1<<61, 0)}, nil, api.ErrOver)
	// The same numbers fit where the keys differ.
	l := []api.Fact{f(0, most, 0), f(1, 1, 0)}
	checkFold(t, s, 0, l, nil, api.ErrOver)
	want, errno := checkFoldDefined(t, s, 1, l)
	if errno != api.OK || len(want) != 2 {
		t.Errorf("the definition has the error %d", errno)
	}
	l = []api.Fact{f(0, most-1, 0), f(0, 1, most), f(0, 0, 0)}
	got, errno := checkFoldDefined(t, s, 1, l)
	if errno != api.OK || got[0].Ints[0].Abs != most || got[0].Ints[1].Abs != most {
		t.Errorf("the definition has the error %d and %v", errno, got)
	}
}

// Promise 15.2: of several errors the one of the first fact, whether it has an error of
// its own or cannot be joined.
func TestFoldOrder(t *testing.T) {
	s := made(1, 0, 2)
	f := func(code int, x int64) api.Fact { return api.Fact{Codes: []int{code}, Ints: []int64{x}} }
	good, great, far, least, bare := f(0, 1), f(0, most), f(2, 1), f(1, least), api.Fact{}
	for _, c := range []struct {
		l    []api.Fact
		want api.Errno
	}{
		{[]api.Fact{far, bare}, api.ErrRange},
		{[]api.Fact{bare, far}, api.ErrMany},
		{[]api.Fact{good, far, good, bare}, api.ErrRange},
		{[]api.Fact{good, bare, good, far}, api.ErrMany},
		{[]api.Fact{least, bare}, api.ErrOver},
		{[]api.Fact{bare, least}, api.ErrMany},
		{[]api.Fact{good, great, far}, api.ErrOver},
		{[]api.Fact{good, great, bare}, api.ErrOver},
		{[]api.Fact{good, far, great}, api.ErrRange},
		{[]api.Fact{good, bare, great}, api.ErrMany},
		{[]api.Fact{far, good, great}, api.ErrRange},
		{[]api.Fact{great, f(1, 1), good, bare}, api.ErrOver},
		{[]api.Fact{great, f(1, 1), bare, good}, api.ErrMany},
		{slices.Concat(slices.Repeat([]api.Fact{f(0, 0)}, 198), []api.Fact{far, bare}), api.ErrRange},
		{slices.Concat(slices.Repeat([]api.Fact{f(0, 0)}, 199), []api.Fact{far, bare}), api.ErrMany},
		{slices.Concat(slices.Repeat([]api.Fact{far}, 201)), api.ErrMany},
	} {
		checkFold(t, s, 1, c.l, nil, c.want)
	}
	// Before all facts come the schema, the set and their number.
	many := slices.Repeat([]api.Fact{far}, 201)
	checkFold(t, s, 2, many, nil, api.ErrNone)
	checkFold(t, api.Schema{}, 2, many, nil, api.ErrArg)
	checkFold(t, s, 2, []api.Fact{far}, nil, api.ErrNone)
	checkFold(t, made(4, 0, 2), math.MaxUint32, []api.Fact{far}, nil, api.ErrArg)
}

// Promise 15.2: mixed facts, of which most errors come often.
func TestFoldMixed(t *testing.T) {
	m := mixer(11)
	count := map[api.Errno]int{}
	for range 4000 {
		s := of(&m, samples())
		l := m.facts(s, m.below(15))
		for range m.below(3) {
			if len(l) > 0 {
				m.spoilFact(&l[m.below(len(l))])
			}
		}
		_, errno := checkFoldDefined(t, s, of(&m, sets(s)), l)
		count[errno]++
	}
	for _, errno := range []api.Errno{api.OK, api.ErrMany, api.ErrRange, api.ErrOver} {
		if count[errno] < 200 {
			t.Errorf("only %d mixed lists of facts have the error %d", count[errno], errno)
		}
	}
}

// spoilFact makes a change to a fact after which it may not be valid, or not fit.
func (m *mixer) spoilFact(f *api.Fact) {
	switch m.below(5) {
	case 0:
		for i := range f.Codes {
			f.Codes[i] = of(m, []int{-1, 4096, 0})
		}
	case 1:
		f.Codes = f.Codes[len(f.Codes)/2:]
	case 2:
		f.Nums = append(f.Nums, 7)
	default:
		for i := range f.Ints {
			f.Ints[i] = of(m, []int64{most, least, least + 1, 1 << 62})
		}
	}
}
