package agg_test

import (
	"fmt"
	"math"
	"slices"
	"testing"

	"bushel/agg"
	"bushel/api"
)

// checkOne fails if One has not this cell and this error.
func checkOne(t *testing.T, s api.Schema, mask uint32, f api.Fact, want api.Cell, wanted api.Errno) {
	t.Helper()
	got, errno := agg.One(s, mask, f)
	checkCell(t, fmt.Sprintf("One(%s, %b, %v)", text(s), mask, f), got, errno, want, wanted)
}

// checkOneDefined fails if One is not as defined.
func checkOneDefined(t *testing.T, s api.Schema, mask uint32, f api.Fact) api.Errno {
	t.Helper()
	want, errno := defineOne(s, mask, f)
	checkOne(t, s, mask, f, want, errno)
	return errno
}

// Promise 14.1: cells written out.
func TestOneWritten(t *testing.T) {
	s := made(2, 1, 2, 3, 4)
	f := api.Fact{Codes: []int{1, 2, 3}, Ints: []int64{-5, 1 << 32}, Nums: []float64{1}}
	c := api.Cell{
		Key:   23,
		Count: 1,
		Ints: []api.Whole{
			{Sum: -5, Abs: 5, Squares: []uint32{25}, Min: -5, Max: -5},
			{Sum: 1 << 32, Abs: 1 << 32, Squares: []uint32{0, 0, 1}, Min: 1 << 32, Max: 1 << 32},
		},
		// 1 is 2^1074 units of 2^-1074: 33 words of 0, and 2^18.
		Nums: []api.Real{{Sum: []byte{16, 33, 1, 0, 4, 0, 0}, Min: 1, Max: 1}},
	}
	checkOne(t, s, 7, f, c, api.OK)
	c.Key = 7
	checkOne(t, s, 5, f, c, api.OK)
	c.Key = 2
	checkOne(t, s, 2, f, c, api.OK)
	c.Key = 0
	checkOne(t, s, 0, f, c, api.OK)
}

// Promise 14.1: integers at their ends, 0 and 1.
func TestOneIntegers(t *testing.T) {
	for _, w := range []api.Whole{
		{},
		{Sum: 1, Abs: 1, Squares: []uint32{1}, Min: 1, Max: 1},
		{Sum: -1, Abs: 1, Squares: []uint32{1}, Min: -1, Max: -1},
		{Sum: 65535, Abs: 65535, Squares: []uint32{0xfffe0001}, Min: 65535, Max: 65535},
		{Sum: -65536, Abs: 65536, Squares: []uint32{0, 1}, Min: -65536, Max: -65536},
		// The square of 2^63 - 1 is 2^126 - 2^64 + 1.
		{Sum: most, Abs: most, Squares: []uint32{1, 0, math.MaxUint32, 1<<30 - 1}, Min: most, Max: most},
		{Sum: least + 1, Abs: most, Squares: []uint32{1, 0, math.MaxUint32, 1<<30 - 1}, Min: least + 1, Max: least + 1},
		{Sum: least + 2, Abs: most - 1, Squares: []uint32{4, 0, math.MaxUint32 - 1, 1<<30 - 1}, Min: least + 2, Max: least + 2},
	} {
		f := api.Fact{Codes: []int{0}, Ints: []int64{w.Sum}}
		checkOne(t, made(1, 0, 2), 1, f, single(w), api.OK)
	}
	for _, x := range integers() {
		checkOneDefined(t, made(2, 0, 2), 1, api.Fact{Codes: []int{1}, Ints: []int64{x, -x}})
	}
}

// Promise 14.1: -2^63 has no absolute value, in each place.
func TestOneOver(t *testing.T) {
	m := mixer(1)
	for _, s := range samples() {
		for i := range s.Ints {
			for _, mask := range sets(s) {
				f := m.fact(s)
				f.Ints[i] = least
				checkOne(t, s, mask, f, api.Cell{}, api.ErrOver)
				f.Ints[i]++
				checkOneDefined(t, s, mask, f)
			}
		}
	}
}

// Promise 14.1: floats of each kind. The sum tells -0 from 0.
func TestOneFloats(t *testing.T) {
	for _, c := range []struct {
		x     float64
		flags byte
	}{{nan, 1}, {strangeNaN, 1}, {infinity, 2}, {-infinity, 4}, {minus0, 8}, {0, 16}} {
		f := api.Fact{Codes: []int{0}, Nums: []float64{c.x}}
		checkOne(t, made(0, 1, 2), 0, f, lone(api.Real{Sum: []byte{c.flags, 0, 0}, Min: c.x, Max: c.x}), api.OK)
	}
	for _, x := range floats() {
		checkOneDefined(t, made(0, 2, 1), 1, api.Fact{Codes: []int{0}, Nums: []float64{x, -x}})
	}
	f := api.Fact{Codes: []int{0}, Nums: []float64{-0x1p-1074}}
	checkOne(t, made(0, 1, 2), 0, f, lone(api.Real{Sum: []byte{48, 0, 1, 0, 0, 0, 1}, Min: -0x1p-1074, Max: -0x1p-1074}), api.OK)
}

// Promise 14.1: facts of schemas without measures and with as many as there may be, for
// all sets.
func TestOneSets(t *testing.T) {
	m := mixer(2)
	for _, s := range samples() {
		for _, mask := range sets(s) {
			for range 20 {
				f := m.fact(s)
				if errno := checkOneDefined(t, s, mask, f); errno != api.OK {
					t.Fatalf("the definition has the error %d", errno)
				}
			}
		}
	}
	checkOne(t, made(0, 0, 1), 0, api.Fact{Codes: []int{0}}, api.Cell{Count: 1}, api.OK)
	checkOne(t, made(0, 0, 1), 1, api.Fact{Codes: []int{0}}, api.Cell{Count: 1}, api.OK)
	checkOne(t, made(0, 0, 9), 1, api.Fact{Codes: []int{8}}, api.Cell{Key: 8, Count: 1}, api.OK)
	last := api.Fact{Codes: []int{4095, 1, 4095, 7, 0, 4095}, Ints: []int64{0, 0, 0}, Nums: []float64{0, 0}}
	if c, errno := agg.One(greatest(), 63, last); c.Key != 1<<40-1 || errno != api.OK {
		t.Errorf("the last key is %d, with the error %d", c.Key, errno)
	}
}

// Promise 14.1: a schema that is not valid comes before all that may be wrong with the
// fact and the set.
func TestOneBadSchema(t *testing.T) {
	for _, s := range notValid() {
		near := api.Fact{Codes: make([]int, len(s.Dims)), Ints: make([]int64, len(s.Ints)), Nums: make([]float64, len(s.Nums))}
		over := api.Fact{Codes: near.Codes, Ints: slices.Repeat([]int64{least}, len(s.Ints)), Nums: near.Nums}
		for _, mask := range []uint32{0, 1, 3, 4, 1 << 31, math.MaxUint32} {
			checkOne(t, s, mask, near, api.Cell{}, api.ErrArg)
			checkOne(t, s, mask, over, api.Cell{}, api.ErrArg)
			checkOne(t, s, mask, api.Fact{}, api.Cell{}, api.ErrArg)
			checkOne(t, s, mask, api.Fact{Codes: []int{-1}}, api.Cell{}, api.ErrArg)
		}
	}
}

// badFacts returns a fact with other lengths or with a code out of its range for each
// place, and with one more thing that is wrong.
func badFacts(m *mixer, s api.Schema) []api.Fact {
	var l []api.Fact
	for i, d := range s.Dims {
		for _, x := range []int{-1, d.Size, d.Size + 1<<32, math.MaxInt, math.MinInt} {
			f := m.fact(s)
			f.Codes[i] = x
			l = append(l, f)
		}
	}
	for _, change := range []func(f *api.Fact){
		func(f *api.Fact) { f.Codes = append(f.Codes, 0) },
		func(f *api.Fact) { f.Codes = f.Codes[1:] },
		func(f *api.Fact) { f.Codes = nil },
		func(f *api.Fact) { f.Ints = append(f.Ints, 0) },
		func(f *api.Fact) { f.Ints = append(f.Ints, least) },
		func(f *api.Fact) { f.Nums = append(f.Nums, 0) },
		func(f *api.Fact) { f.Codes[0], f.Nums = -1, append(f.Nums, nan) },
	} {
		f := m.fact(s)
		change(&f)
		l = append(l, f)
	}
	if len(s.Ints) > 0 {
		f := m.fact(s)
		f.Codes[0], f.Ints[0] = -1, least
		l = append(l, f)
		f = m.fact(s)
		f.Ints = f.Ints[1:]
		l = append(l, f)
	}
	return l
}

// Promise 14.1: a fact that is not valid has its own error, and it comes before a set
// with a bit that is not a dimension, and before -2^63.
func TestOneBadFact(t *testing.T) {
	m := mixer(3)
	count := map[api.Errno]int{}
	for _, s := range samples() {
		for _, mask := range slices.Concat(sets(s), noSets(s)) {
			for _, f := range badFacts(&m, s) {
				count[checkOneDefined(t, s, mask, f)]++
			}
		}
	}
	if len(count) != 2 || count[api.ErrMany] < 1000 || count[api.ErrRange] < 1000 {
		t.Errorf("facts that are not valid have these errors: %v", count)
	}
	s := made(1, 0, 2)
	checkOne(t, s, 2, api.Fact{Codes: []int{2}, Ints: []int64{3}}, api.Cell{}, api.ErrRange)
	checkOne(t, s, 2, api.Fact{Codes: []int{2}, Ints: []int64{least}}, api.Cell{}, api.ErrRange)
	checkOne(t, s, 0, api.Fact{Codes: []int{2}, Ints: []int64{3}}, api.Cell{}, api.ErrRange)
	checkOne(t, s, 2, api.Fact{Codes: []int{1}}, api.Cell{}, api.ErrMany)
	checkOne(t, s, 2, api.Fact{Ints: []int64{least}}, api.Cell{}, api.ErrMany)
}

// Promise 14.1: a set with a bit that is not a dimension, also with -2^63.
func TestOneNoSet(t *testing.T) {
	m := mixer(4)
	for _, s := range samples() {
		for _, mask := range noSets(s) {
			f := m.fact(s)
			checkOne(t, s, mask, f, api.Cell{}, api.ErrNone)
			for i := range f.Ints {
				f.Ints[i] = least
			}
			checkOne(t, s, mask, f, api.Cell{}, api.ErrNone)
		}
	}
}
