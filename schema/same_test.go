package schema_test

import (
	"math"
	"slices"
	"testing"

	"bushel/api"
	"bushel/schema"
)

// checkSame fails if Same, asked in both orders, does not return want.
func checkSame(t *testing.T, a, b api.Schema, want bool) {
	t.Helper()
	defer settle(t)
	if schema.Same(a, b) != want {
		t.Errorf("Same(%s, %s) is %v", text(a), text(b), !want)
	}
	if schema.Same(b, a) != want {
		t.Errorf("Same(%s, %s) is %v", text(b), text(a), !want)
	}
}

// checkChanged fails if a schema, changed in this way, is still the same.
func checkChanged(t *testing.T, s api.Schema, change func(*api.Schema)) {
	t.Helper()
	other := clone(s)
	change(&other)
	checkSame(t, s, other, false)
	checkSame(t, other, clone(other), true)
}

// Promise 11.2: a schema is the same as itself, in other memory too, and as no other
// one of the samples.
func TestSame(t *testing.T) {
	all := samples()
	for i, a := range all {
		checkSame(t, a, a, true)
		checkSame(t, a, clone(a), true)
		for j, b := range samples() {
			checkSame(t, a, b, i == j)
		}
		checkSame(t, a, api.Schema{}, false)
	}
}

// Promise 11.2: another name in each place.
func TestSameOtherName(t *testing.T) {
	for _, s := range samples() {
		for i := range places(&s) {
			for _, name := range []string{"", "q", "d", "D0", "d0 ", "d00", *places(&s)[i] + "_", "\xff"} {
				checkChanged(t, s, func(o *api.Schema) { *places(o)[i] = name })
			}
		}
	}
}

// Promise 11.2: another Size of each dimension, and another view in each place.
func TestSameOtherNumber(t *testing.T) {
	for _, s := range samples() {
		for i, d := range s.Dims {
			for _, size := range []int{d.Size + 1, d.Size - 1, 0, -d.Size, d.Size + 1<<32, d.Size + 1<<16, math.MaxInt} {
				checkChanged(t, s, func(o *api.Schema) { o.Dims[i].Size = size })
			}
		}
		for i, v := range s.Views {
			for _, view := range []uint32{v + 1, v - 1, v ^ 1<<31, v ^ 1<<16, ^v} {
				checkChanged(t, s, func(o *api.Schema) { o.Views[i] = view })
			}
		}
	}
}

// Promise 11.2: elements in another order, one less, and one more.
func TestSameOtherElements(t *testing.T) {
	s := greatest()
	checkChanged(t, s, func(o *api.Schema) { o.Dims[0], o.Dims[5] = o.Dims[5], o.Dims[0] })
	checkChanged(t, s, func(o *api.Schema) { o.Dims[2].Name, o.Dims[3].Name = o.Dims[3].Name, o.Dims[2].Name })
	checkChanged(t, s, func(o *api.Schema) { o.Dims[2].Size, o.Dims[3].Size = o.Dims[3].Size, o.Dims[2].Size })
	checkChanged(t, s, func(o *api.Schema) { slices.Reverse(o.Ints) })
	checkChanged(t, s, func(o *api.Schema) { slices.Reverse(o.Nums) })
	checkChanged(t, s, func(o *api.Schema) { slices.Reverse(o.Views) })
	checkChanged(t, s, func(o *api.Schema) { o.Dims = o.Dims[:5] })
	checkChanged(t, s, func(o *api.Schema) { o.Dims = o.Dims[1:] })
	checkChanged(t, s, func(o *api.Schema) { o.Dims = append(o.Dims, api.Dim{}) })
	checkChanged(t, s, func(o *api.Schema) { o.Ints = o.Ints[:2] })
	checkChanged(t, s, func(o *api.Schema) { o.Ints = append(o.Ints, "") })
	checkChanged(t, s, func(o *api.Schema) { o.Nums = o.Nums[:1] })
	checkChanged(t, s, func(o *api.Schema) { o.Nums = append(o.Nums, "") })
	checkChanged(t, s, func(o *api.Schema) { o.Views = o.Views[:14] })
	checkChanged(t, s, func(o *api.Schema) { o.Views = append(o.Views, 0) })
	checkChanged(t, s, func(o *api.Schema) { o.Dims = nil })
	checkChanged(t, s, func(o *api.Schema) { o.Ints = nil })
	checkChanged(t, s, func(o *api.Schema) { o.Nums = nil })
	checkChanged(t, s, func(o *api.Schema) { o.Views = nil })
}

// Promise 11.2: names count in their list only.
func TestSameOtherList(t *testing.T) {
	a := api.Schema{Dims: dims(2), Ints: []string{"a", "b"}, Nums: []string{"c"}}
	checkSame(t, a, api.Schema{Dims: dims(2), Ints: []string{"a"}, Nums: []string{"b", "c"}}, false)
	checkSame(t, a, api.Schema{Dims: dims(2), Ints: []string{"a", "b", "c"}}, false)
	checkSame(t, a, api.Schema{Dims: dims(2), Ints: []string{"c"}, Nums: []string{"a", "b"}}, false)
	checkSame(t, a, api.Schema{Dims: dims(2), Ints: []string{"ab", ""}, Nums: []string{"c"}}, false)
	checkSame(t, a, api.Schema{Dims: dims(2), Ints: []string{"", "ab"}, Nums: []string{"c"}}, false)
}

// Promise 11.2 and R3: lists that are nil are the same as empty ones.
func TestSameEmpty(t *testing.T) {
	empty := api.Schema{Dims: []api.Dim{}, Ints: []string{}, Nums: []string{}, Views: []uint32{}}
	checkSame(t, api.Schema{}, api.Schema{}, true)
	checkSame(t, api.Schema{}, empty, true)
	checkSame(t, empty, empty, true)
	for _, s := range samples() {
		for choice := range 8 {
			a, b := clone(s), clone(s)
			if choice&1 != 0 {
				a.Ints, b.Ints = nil, []string{}
			}
			if choice&2 != 0 {
				a.Nums, b.Nums = nil, s.Nums[:0]
			}
			if choice&4 != 0 {
				a.Views, b.Views = nil, make([]uint32, 0, 9)
			}
			checkSame(t, a, b, true)
		}
	}
}

// Promise 11.2: schemas that are not valid are compared all the same.
func TestSameInvalid(t *testing.T) {
	several(func(s api.Schema, _ api.Errno) {
		checkSame(t, s, clone(s), true)
		checkChanged(t, s, func(o *api.Schema) { o.Views = append(o.Views, 1) })
	})
	checkSame(t, api.Schema{Dims: dims(0)}, api.Schema{Dims: dims(-1)}, false)
	checkSame(t, api.Schema{Dims: dims(0)}, api.Schema{}, false)
	checkSame(t, api.Schema{Ints: []string{""}}, api.Schema{}, false)
	checkSame(t, api.Schema{Ints: []string{""}}, api.Schema{Nums: []string{""}}, false)
	checkSame(t, api.Schema{Views: []uint32{0}}, api.Schema{}, false)
	long := api.Schema{Dims: dims(make([]int, 3000)...), Ints: named("i", 3000), Nums: named("n", 3000), Views: views(0, 2999)}
	checkSame(t, long, clone(long), true)
	checkChanged(t, long, func(o *api.Schema) { o.Dims[2999].Size = 1 })
	checkChanged(t, long, func(o *api.Schema) { o.Dims[2999].Name = "" })
	checkChanged(t, long, func(o *api.Schema) { o.Ints[2999] = "" })
	checkChanged(t, long, func(o *api.Schema) { o.Nums[2999] = "" })
	checkChanged(t, long, func(o *api.Schema) { o.Views[2999] = 0 })
}
