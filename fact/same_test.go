package fact_test

import (
	"math"
	"slices"
	"testing"

	"bushel/api"
	"bushel/fact"
)

// checkSame fails if Same, asked in both orders, does not return want.
func checkSame(t *testing.T, a, b api.Fact, want bool) {
	t.Helper()
	defer settle(t)
	if fact.Same(a, b) != want {
		t.Errorf("Same(%v, %v) is %v", a, b, !want)
	}
	if fact.Same(b, a) != want {
		t.Errorf("Same(%v, %v) is %v", b, a, !want)
	}
}

// full returns a fact with as many of everything as there may be.
func full() api.Fact {
	return api.Fact{Codes: []int{1, 2, 3, 4, 5, 6}, Ints: []int64{7, 8, 9}, Nums: []float64{10, 11}}
}

// Promise 12.2: facts that are the same, in other memory too.
func TestSame(t *testing.T) {
	m := mixer(10)
	for _, s := range samples() {
		for range 100 {
			f := m.fact(s)
			checkSame(t, f, f, true)
			checkSame(t, f, clone(f), true)
			checkSame(t, f, api.Fact{}, false)
		}
	}
	checkSame(t, full(), full(), true)
}

// Promise 12.2: another code, and another integer, in each place.
func TestSameOtherNumber(t *testing.T) {
	for i := range full().Codes {
		for _, x := range []int{0, -1, full().Codes[i] + 1, full().Codes[i] + 1<<32, full().Codes[i] + 256, math.MaxInt, math.MinInt} {
			o := full()
			o.Codes[i] = x
			checkSame(t, full(), o, false)
			checkSame(t, o, clone(o), true)
		}
	}
	for i := range full().Ints {
		for _, x := range []int64{0, -7, full().Ints[i] + 1, full().Ints[i] + 1<<32, full().Ints[i] + 256, math.MaxInt64, math.MinInt64} {
			o := full()
			o.Ints[i] = x
			checkSame(t, full(), o, false)
			checkSame(t, o, clone(o), true)
		}
	}
}

// Promise 12.2: integers that would be equal as floats.
func TestSameOfGreatIntegers(t *testing.T) {
	a, b := api.Fact{Ints: []int64{1 << 53}}, api.Fact{Ints: []int64{1<<53 + 1}}
	checkSame(t, a, b, false)
	a, b = api.Fact{Ints: []int64{math.MaxInt64}}, api.Fact{Ints: []int64{math.MaxInt64 - 1}}
	checkSame(t, a, b, false)
}

// Promise 12.2: any two floats, in each place.
func TestSameFloats(t *testing.T) {
	for i, x := range floats() {
		for j, y := range floats() {
			want := i == j || math.IsNaN(x) && math.IsNaN(y)
			checkSame(t, api.Fact{Nums: []float64{x}}, api.Fact{Nums: []float64{y}}, want)
			for place := range full().Nums {
				a, b := full(), full()
				a.Nums[place], b.Nums[place] = x, y
				checkSame(t, a, b, want)
			}
		}
	}
}

// Promise 12.2: 0 and -0 differ, and all NaN are the same.
func TestSameZerosAndNaN(t *testing.T) {
	of := func(x float64) api.Fact { return api.Fact{Codes: []int{1}, Nums: []float64{x}} }
	minus := math.Copysign(0, -1)
	checkSame(t, of(0), of(minus), false)
	checkSame(t, of(0), of(0), true)
	checkSame(t, of(minus), of(minus), true)
	for _, a := range []uint64{0x7ff8000000000000, 0x7ff8000000000001, 0x7ff0000000000001, 0xfff8000000000000, 0xffffffffffffffff} {
		for _, b := range []uint64{0x7ff8000000000001, 0x7fffffffffffffff, 0xfff0000000000001} {
			checkSame(t, of(math.Float64frombits(a)), of(math.Float64frombits(b)), true)
		}
		checkSame(t, of(math.Float64frombits(a)), of(math.Inf(1)), false)
		checkSame(t, of(math.Float64frombits(a)), of(0), false)
	}
	checkSame(t, of(math.Inf(1)), of(math.Inf(-1)), false)
	checkSame(t, of(math.Inf(1)), of(math.Inf(1)), true)
	checkSame(t, of(math.Inf(1)), of(math.MaxFloat64), false)
}

// Promise 12.2: one element more, at either end, or less.
func TestSameOtherLength(t *testing.T) {
	for _, x := range []int{0, 1, 6} {
		for _, change := range []func(*api.Fact){
			func(f *api.Fact) { f.Codes = append(f.Codes, x) },
			func(f *api.Fact) { f.Codes = slices.Insert(f.Codes, 0, x) },
			func(f *api.Fact) { f.Codes = f.Codes[1:] },
			func(f *api.Fact) { f.Codes = f.Codes[:5] },
			func(f *api.Fact) { f.Codes = nil },
			func(f *api.Fact) { f.Ints = append(f.Ints, int64(x)) },
			func(f *api.Fact) { f.Ints = slices.Insert(f.Ints, 0, int64(x)) },
			func(f *api.Fact) { f.Ints = f.Ints[1:] },
			func(f *api.Fact) { f.Ints = f.Ints[:2] },
			func(f *api.Fact) { f.Ints = nil },
			func(f *api.Fact) { f.Nums = append(f.Nums, float64(x)) },
			func(f *api.Fact) { f.Nums = slices.Insert(f.Nums, 0, float64(x)) },
			func(f *api.Fact) { f.Nums = f.Nums[1:] },
			func(f *api.Fact) { f.Nums = f.Nums[:1] },
			func(f *api.Fact) { f.Nums = nil },
			func(f *api.Fact) { *f = api.Fact{} },
		} {
			o := full()
			change(&o)
			checkSame(t, full(), o, false)
			checkSame(t, o, clone(o), true)
		}
	}
}

// Promise 12.2: the same numbers in another order, or as other measures.
func TestSameOtherPlace(t *testing.T) {
	a, b := full(), full()
	slices.Reverse(b.Codes)
	checkSame(t, a, b, false)
	b = full()
	slices.Reverse(b.Ints)
	checkSame(t, a, b, false)
	b = full()
	slices.Reverse(b.Nums)
	checkSame(t, a, b, false)
	checkSame(t, api.Fact{Codes: []int{1}}, api.Fact{Ints: []int64{1}}, false)
	checkSame(t, api.Fact{Nums: []float64{1}}, api.Fact{Ints: []int64{1}}, false)
	checkSame(t, api.Fact{Codes: []int{1, 2}}, api.Fact{Codes: []int{1}, Ints: []int64{2}}, false)
}

// Promise 12.2: there is no difference between no list and an empty one.
func TestSameEmpty(t *testing.T) {
	empty := api.Fact{Codes: []int{}, Ints: []int64{}, Nums: []float64{}}
	checkSame(t, api.Fact{}, api.Fact{}, true)
	checkSame(t, api.Fact{}, empty, true)
	checkSame(t, api.Fact{Codes: []int{1}}, api.Fact{Codes: []int{1}, Ints: []int64{}, Nums: []float64{}}, true)
	checkSame(t, api.Fact{Codes: []int{1}}, empty, false)
	checkSame(t, api.Fact{Codes: []int{0}}, empty, false)
	checkSame(t, api.Fact{Ints: []int64{0}}, api.Fact{}, false)
	checkSame(t, api.Fact{Nums: []float64{0}}, api.Fact{}, false)
}

// Promise 12.2: facts that no schema has are compared, too.
func TestSameLong(t *testing.T) {
	l := api.Fact{Codes: make([]int, 70000), Ints: make([]int64, 70000), Nums: make([]float64, 70000)}
	o := clone(l)
	if !fact.Same(l, o) {
		t.Error("long facts are not the same")
	}
	o.Nums[69999] = math.Copysign(0, -1)
	if fact.Same(l, o) {
		t.Error("long facts that differ in the last number are the same")
	}
}

// Promise 12.2: mixed facts, near each other.
func TestSameMixed(t *testing.T) {
	m := mixer(11)
	count := map[bool]int{}
	for range 20000 {
		s := of(&m, samples())
		a := m.mixed(s)
		b := of(&m, []api.Fact{clone(a), clone(a), m.mixed(s)})
		if m.below(2) == 0 {
			m.spoil(&b)
		}
		want := defineSame(a, b)
		checkSame(t, a, b, want)
		count[want]++
	}
	if count[true] < 1000 || count[false] < 1000 {
		t.Errorf("%d mixed facts are the same, and %d are not", count[true], count[false])
	}
}
