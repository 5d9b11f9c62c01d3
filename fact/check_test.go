package fact_test

import (
	"math"
	"slices"
	"testing"

	"bushel/api"
	"bushel/fact"
)

// checkError fails if Check does not return this error, or if a batch of this fact
// alone has another one.
func checkError(t *testing.T, s api.Schema, f api.Fact, want api.Errno) {
	t.Helper()
	defer settle(t)
	if got := fact.Check(s, f); got != want {
		t.Errorf("Check(%s, %s) = %d; want %d", text(s), textOf(f), got, want)
	}
	checkBatch(t, s, []api.Fact{f}, 0, want)
}

// Promise 12.1: valid facts for schemas of all kinds.
func TestCheckValid(t *testing.T) {
	m := mixer(1)
	for _, s := range samples() {
		for range 200 {
			checkError(t, s, m.fact(s), api.OK)
		}
	}
}

// Promise 12.1: with a schema that is not valid, any fact has ErrArg: one that would be
// valid, one with too few or too many of everything, and one with codes out of range.
func TestCheckBadSchema(t *testing.T) {
	for _, s := range notValid() {
		f := api.Fact{Codes: make([]int, len(s.Dims)), Ints: make([]int64, len(s.Ints)), Nums: make([]float64, len(s.Nums))}
		checkError(t, s, f, api.ErrArg)
		checkError(t, s, api.Fact{}, api.ErrArg)
		checkError(t, s, api.Fact{Codes: []int{1}, Ints: []int64{2}}, api.ErrArg)
		f.Codes = append(f.Codes, 0)
		checkError(t, s, f, api.ErrArg)
		for i := range f.Codes {
			f.Codes[i] = -1
		}
		checkError(t, s, f, api.ErrArg)
		checkError(t, s, api.Fact{Codes: slices.Repeat([]int{math.MaxInt}, len(s.Dims))}, api.ErrArg)
	}
}

// Promise 12.1: how many Codes, Ints and Nums there are: none, one too few, as many as
// there have to be, one too many, and many.
func TestCheckMany(t *testing.T) {
	for _, s := range samples() {
		dims, ints, nums := len(s.Dims), len(s.Ints), len(s.Nums)
		for _, codes := range []int{0, dims - 1, dims, dims + 1, 6, 7, 1000} {
			for _, wholes := range []int{0, max(ints-1, 0), ints, ints + 1, 3, 4, 1000} {
				for _, reals := range []int{0, max(nums-1, 0), nums, nums + 1, 2, 3, 1000} {
					f := api.Fact{Codes: make([]int, codes), Ints: make([]int64, wholes), Nums: make([]float64, reals)}
					want := api.ErrMany
					if codes == dims && wholes == ints && reals == nums {
						want = api.OK
					}
					checkError(t, s, f, want)
				}
			}
		}
	}
}

// Promise 12.1: lists whose numbers make up for each other.
func TestCheckManyInSum(t *testing.T) {
	s := made(2, 2, 5, 5)
	two := []int{1, 1}
	checkError(t, s, api.Fact{Codes: two, Ints: []int64{1, 1}, Nums: []float64{1, 1}}, api.OK)
	checkError(t, s, api.Fact{Codes: two, Ints: []int64{1, 1, 1}, Nums: []float64{1}}, api.ErrMany)
	checkError(t, s, api.Fact{Codes: two, Ints: []int64{1}, Nums: []float64{1, 1, 1}}, api.ErrMany)
	checkError(t, s, api.Fact{Codes: []int{1}, Ints: []int64{1, 1, 1}, Nums: []float64{1, 1}}, api.ErrMany)
	checkError(t, s, api.Fact{Codes: []int{1, 1, 1}, Ints: []int64{1, 1}, Nums: []float64{1}}, api.ErrMany)
	checkError(t, made(1, 0, 5), api.Fact{Codes: []int{1}, Nums: []float64{1}}, api.ErrMany)
	checkError(t, made(0, 1, 5), api.Fact{Codes: []int{1}, Ints: []int64{1}}, api.ErrMany)
}

// Promise 12.1: a list that has to be empty may be nil.
func TestCheckEmpty(t *testing.T) {
	s := made(0, 0, 3)
	checkError(t, s, api.Fact{Codes: []int{2}}, api.OK)
	checkError(t, s, api.Fact{Codes: []int{2}, Ints: []int64{}, Nums: []float64{}}, api.OK)
	checkError(t, s, api.Fact{}, api.ErrMany)
	checkError(t, s, api.Fact{Codes: []int{}, Ints: []int64{}, Nums: []float64{}}, api.ErrMany)
	checkError(t, made(1, 0, 3), api.Fact{Codes: []int{2}, Ints: []int64{}}, api.ErrMany)
	checkError(t, made(0, 1, 3), api.Fact{Codes: []int{2}, Nums: []float64{}}, api.ErrMany)
}

// Promise 12.1: codes at both ends of their range, beyond, and far from it, in each
// place.
func TestCheckCode(t *testing.T) {
	for _, s := range samples() {
		for i, d := range s.Dims {
			f := mix().fact(s)
			for _, x := range []int{0, d.Size / 2, d.Size - 1} {
				f.Codes[i] = x
				checkError(t, s, f, api.OK)
			}
			for _, x := range []int{
				-1, -2, -d.Size, math.MinInt32, math.MinInt, math.MinInt + 1, d.Size, d.Size + 1, d.Size + 256,
				d.Size + 65536, d.Size - 1 + 1<<32, d.Size + 1<<32, math.MaxInt32, math.MaxInt - 1, math.MaxInt,
			} {
				f.Codes[i] = x
				checkError(t, s, f, api.ErrRange)
			}
		}
	}
}

// mix returns a mixer.
func mix() *mixer {
	m := mixer(7)
	return &m
}

// Promise 12.1: each code is held against the Size of its own dimension.
func TestCheckCodeOfItsDimension(t *testing.T) {
	s := made(0, 0, 2, 5, 3)
	for a := -1; a <= 6; a++ {
		for b := -1; b <= 6; b++ {
			for c := -1; c <= 6; c++ {
				want := api.ErrRange
				if a >= 0 && a < 2 && b >= 0 && b < 5 && c >= 0 && c < 3 {
					want = api.OK
				}
				checkError(t, s, api.Fact{Codes: []int{a, b, c}}, want)
			}
		}
	}
}

// Promise 12.1: the numbers may be any.
func TestCheckNumbers(t *testing.T) {
	for _, x := range integers() {
		for _, y := range floats() {
			checkError(t, made(2, 2, 2), api.Fact{Codes: []int{1}, Ints: []int64{x, -x}, Nums: []float64{y, -y}}, api.OK)
		}
	}
}

// Promise 12.1: a wrong number of anything comes before a code out of its range.
func TestCheckSeveral(t *testing.T) {
	s := made(1, 1, 2, 3)
	for _, bad := range []int{-1, 2, 3, math.MinInt, math.MaxInt} {
		one, two := []int64{1}, []float64{1}
		for _, codes := range [][]int{{bad}, {bad, 0, 0}, {0, bad, 0}, {0, 0, bad}, {bad, bad, bad}} {
			checkError(t, s, api.Fact{Codes: codes, Ints: one, Nums: two}, api.ErrMany)
			checkError(t, s, api.Fact{Codes: codes}, api.ErrMany)
		}
		checkError(t, s, api.Fact{Codes: []int{bad, bad}, Ints: one, Nums: two}, api.ErrRange)
		checkError(t, s, api.Fact{Codes: []int{bad, 0}, Nums: two}, api.ErrMany)
		checkError(t, s, api.Fact{Codes: []int{bad, 0}, Ints: one}, api.ErrMany)
		checkError(t, s, api.Fact{Codes: []int{bad, 0}, Ints: []int64{1, 1}, Nums: two}, api.ErrMany)
		checkError(t, s, api.Fact{Codes: []int{bad, 0}, Ints: one, Nums: []float64{1, 1}}, api.ErrMany)
	}
}

// Promise 12.1: mixed facts, of which both errors come often.
func TestCheckMixed(t *testing.T) {
	m := mixer(3)
	all := append(samples(), notValid()...)
	count := map[api.Errno]int{}
	for range 20000 {
		s := of(&m, all)
		f := m.mixed(s)
		want := defineCheck(s, f)
		checkError(t, s, f, want)
		count[want]++
	}
	for _, errno := range []api.Errno{api.OK, api.ErrArg, api.ErrMany, api.ErrRange} {
		if count[errno] < 500 {
			t.Errorf("only %d mixed facts have the error %d", count[errno], errno)
		}
	}
}
