package schema_test

import (
	"math"
	"slices"
	"testing"

	"bushel/api"
	"bushel/schema"
)

// checkFull fails if Full does not return this set.
func checkFull(t *testing.T, s api.Schema, want uint32) {
	t.Helper()
	if got := schema.Full(s); got != want {
		t.Errorf("Full of %s = %d; want %d", text(s), got, want)
	}
}

// checkViews fails if Views does not return these sets.
func checkViews(t *testing.T, s api.Schema, want ...uint32) {
	t.Helper()
	if got := schema.Views(s); !slices.Equal(got, want) {
		t.Errorf("Views of %s = %d; want %d", text(s), got, want)
	}
}

// checkKeys fails if Keys does not return this number.
func checkKeys(t *testing.T, s api.Schema, mask uint32, want uint64) {
	t.Helper()
	if got, ok := schema.Keys(s, mask); got != want || !ok {
		t.Errorf("Keys(%s, %d) = %d, %v; want %d, true", text(s), mask, got, ok, want)
	}
}

// checkNoKeys fails if Keys returns a number.
func checkNoKeys(t *testing.T, s api.Schema, mask uint32) {
	t.Helper()
	if got, ok := schema.Keys(s, mask); got != 0 || ok {
		t.Errorf("Keys(%s, %d) = %d, %v; want 0, false", text(s), mask, got, ok)
	}
}

// Promise 11.1: the chapter's example.
func TestExample(t *testing.T) {
	s := example()
	checkFull(t, s, 3)
	checkViews(t, s, 3, 1)
	checkKeys(t, s, 3, 6)
	checkKeys(t, s, 1, 2)
	checkKeys(t, s, 2, 3)
	checkKeys(t, s, 0, 1)
	checkNoKeys(t, s, 4)
}

// Promise 11.1: Full for each number of dimensions.
func TestFull(t *testing.T) {
	for n, want := range []uint32{0, 1, 3, 7, 15, 31, 63, 0, 0} {
		checkFull(t, api.Schema{Dims: dims(slices.Repeat([]int{2}, n)...)}, want)
		checkFull(t, api.Schema{Dims: dims(slices.Repeat([]int{1}, n)...), Ints: named("i", 3), Nums: named("n", 2)}, want)
	}
	for _, n := range []int{31, 32, 33, 63, 64, 65, 1000} {
		checkFull(t, api.Schema{Dims: dims(slices.Repeat([]int{1}, n)...)}, 0)
	}
}

// Promise 11.1: the base comes first, then the others in their order.
func TestViews(t *testing.T) {
	checkViews(t, api.Schema{Dims: dims(9)}, 1)
	checkViews(t, api.Schema{Dims: dims(9), Views: []uint32{}}, 1)
	checkViews(t, api.Schema{Dims: dims(9), Views: []uint32{0}}, 1, 0)
	checkViews(t, api.Schema{Dims: dims(9, 9), Views: []uint32{2}}, 3, 2)
	checkViews(t, api.Schema{Dims: dims(9, 9, 9), Views: []uint32{0, 4, 6}}, 7, 0, 4, 6)
	checkViews(t, greatest(), 63, 0, 1, 2, 3, 4, 5, 6, 7, 8, 9, 10, 11, 12, 13, 14)
	for _, s := range samples() {
		checkViews(t, s, slices.Concat([]uint32{1<<len(s.Dims) - 1}, s.Views)...)
	}
}

// Promise 11.1: the number of keys of no dimension, of each one, of all, and of what
// is no set of dimensions.
func TestKeys(t *testing.T) {
	s := api.Schema{Dims: dims(2, 3, 5, 7, 11, 13)}
	checkKeys(t, s, 0, 1)
	for i, d := range s.Dims {
		checkKeys(t, s, 1<<i, uint64(d.Size))
		checkKeys(t, s, 63^1<<i, uint64(30030/d.Size))
	}
	checkKeys(t, s, 63, 30030)
	checkKeys(t, s, 1|4|32, 130)
	for bit := 6; bit < 32; bit++ {
		checkNoKeys(t, s, 1<<bit)
		checkNoKeys(t, s, 1<<bit|63)
		checkNoKeys(t, s, 1<<bit|5)
	}
	checkNoKeys(t, s, math.MaxUint32)
	checkNoKeys(t, api.Schema{Dims: dims(7)}, 2)
	checkNoKeys(t, api.Schema{Dims: dims(7)}, 1<<31)
	checkNoKeys(t, api.Schema{Dims: dims(7)}, 1<<31|1)
}

// Promise 11.1: the greatest numbers of keys.
func TestKeysOfMany(t *testing.T) {
	s := api.Schema{Dims: dims(4096, 4096, 4096, 16, 1, 1)}
	checkKeys(t, s, 63, 1<<40)
	checkKeys(t, s, 15, 1<<40)
	checkKeys(t, s, 7, 1<<36)
	checkKeys(t, s, 3, 1<<24)
	checkKeys(t, s, 8, 16)
	checkKeys(t, s, 48, 1)
	checkKeys(t, s, 0, 1)
	checkKeys(t, api.Schema{Dims: dims(4033, 2774, 4095, 24)}, 15, 1<<40-16)
	checkKeys(t, api.Schema{Dims: dims(2642, 2501, 650)}, 7, 1<<32+4)
}

// Promise 11.1: Keys of any set that is not a view, too, and of all masks with few
// bits.
func TestKeysOfSamples(t *testing.T) {
	for _, s := range samples() {
		for mask := range uint32(300) {
			for _, more := range []uint32{0, 1 << 6, 1 << 16, 1 << 31} {
				want, ok := defineKeys(s, mask|more)
				if ok {
					checkKeys(t, s, mask|more, want)
				} else {
					checkNoKeys(t, s, mask|more)
				}
			}
		}
	}
}

// Promise 11.1: mixed schemas that are valid.
func TestMixedViews(t *testing.T) {
	m := mixer(12)
	for range 5000 {
		s := m.valid()
		full := uint32(1)<<len(s.Dims) - 1
		checkFull(t, s, full)
		checkViews(t, s, slices.Concat([]uint32{full}, s.Views)...)
		mask := m.word() & full
		want, _ := defineKeys(s, mask)
		checkKeys(t, s, mask, want)
	}
}
