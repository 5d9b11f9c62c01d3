package agg_test

import (
	"math"
	"slices"
	"testing"

	"bushel/agg"
	"bushel/api"
)

// checkSame fails if Same, asked in both orders, has not this answer.
func checkSame(t *testing.T, a, b api.Cell, want bool) {
	t.Helper()
	defer settle(t)
	if agg.Same(a, b) != want {
		t.Errorf("Same(%s, %s) is %v", textOf(a), textOf(b), !want)
	}
	if agg.Same(b, a) != want {
		t.Errorf("Same(%s, %s) is %v", textOf(b), textOf(a), !want)
	}
}

// Promise 14.3: cells that are the same, in other memory too.
func TestSame(t *testing.T) {
	m := mixer(13)
	for _, s := range samples() {
		for range 50 {
			c := m.cell(s, full(s))
			checkSame(t, c, c, true)
			checkSame(t, c, clone(c), true)
			checkSame(t, c, api.Cell{}, false)
		}
	}
	for _, c := range notRight(&m) {
		checkSame(t, c, clone(c), true)
	}
	checkSame(t, plain(), plain(), true)
	checkSame(t, api.Cell{}, api.Cell{}, true)
}

// numbers returns the places of all 64-bit integers of a cell like plain.
func numbers(c *api.Cell) []*int64 {
	l := []*int64{&c.Count}
	for i := range c.Ints {
		w := &c.Ints[i]
		l = append(l, &w.Sum, &w.Abs, &w.Min, &w.Max)
	}
	return l
}

// Promise 14.3: another number, in each place.
func TestSameOtherNumber(t *testing.T) {
	p := plain()
	for i := range numbers(&p) {
		for _, change := range []func(x *int64){
			func(x *int64) { *x++ },
			func(x *int64) { *x = -*x },
			func(x *int64) { *x += 256 },
			func(x *int64) { *x += 1 << 32 },
			func(x *int64) { *x ^= least },
			func(x *int64) { *x = 0 },
			func(x *int64) { *x = most },
		} {
			c := plain()
			change(numbers(&c)[i])
			checkSame(t, plain(), c, false)
			checkSame(t, c, clone(c), true)
		}
	}
	for _, k := range []uint64{1, 256, 1 << 32, 1 << 63, math.MaxUint64} {
		c := plain()
		c.Key = k
		checkSame(t, plain(), c, false)
		checkSame(t, c, clone(c), true)
	}
}

// Promise 14.3: integers that would be equal as floats.
func TestSameOfGreatIntegers(t *testing.T) {
	checkSame(t, single(api.Whole{Min: 1 << 53}), single(api.Whole{Min: 1<<53 + 1}), false)
	checkSame(t, single(api.Whole{Max: most}), single(api.Whole{Max: most - 1}), false)
	checkSame(t, single(api.Whole{Sum: least}), single(api.Whole{Sum: least + 1}), false)
}

// Promise 14.3: Squares word by word, trailing zero words too.
func TestSameSquares(t *testing.T) {
	lists := [][]uint32{
		nil, {0}, {0, 0}, {1}, {2}, {1, 0}, {1, 0, 0}, {0, 1}, {1, 1}, {1, 2}, {2, 1}, {1, 1 << 31}, {1<<31 + 1},
		slices.Repeat([]uint32{5}, 7), slices.Repeat([]uint32{5}, 8), make([]uint32, 7), make([]uint32, 8),
	}
	for i, x := range lists {
		for j, y := range lists {
			for at := range 2 {
				a, b := plain(), plain()
				a.Ints[at].Squares, b.Ints[at].Squares = x, y
				checkSame(t, a, b, i == j)
			}
		}
	}
	for i := range plain().Ints[0].Squares {
		c := plain()
		c.Ints[0].Squares[i]++
		checkSame(t, plain(), c, false)
	}
}

// Promise 14.3: another byte of a Sum, in each place, and more or fewer bytes.
func TestSameSums(t *testing.T) {
	for at := range 2 {
		for i := range plain().Nums[at].Sum {
			c := plain()
			c.Nums[at].Sum[i]++
			checkSame(t, plain(), c, false)
			c = plain()
			c.Nums[at].Sum = c.Nums[at].Sum[:i]
			checkSame(t, plain(), c, false)
		}
		c := plain()
		c.Nums[at].Sum = append(c.Nums[at].Sum, 0)
		checkSame(t, plain(), c, false)
	}
	// These have the same Value.
	checkSame(t, lone(api.Real{Sum: sumOf()}), lone(api.Real{Sum: sumOf(0)}), false)
	checkSame(t, lone(api.Real{Sum: sumOf()}), lone(api.Real{}), false)
	checkSame(t, lone(api.Real{Sum: sumOf(1<<53, 1)}), lone(api.Real{Sum: sumOf(1 << 53)}), false)
	// These are no encodings.
	checkSame(t, lone(api.Real{Sum: []byte{7}}), lone(api.Real{Sum: []byte{7}}), true)
	checkSame(t, lone(api.Real{Sum: []byte{7}}), lone(api.Real{Sum: []byte{8}}), false)
}

// Promise 14.3: any two floats, in each place: 0 and -0 differ, and all NaN values are
// one.
func TestSameFloats(t *testing.T) {
	for i, x := range floats() {
		for j, y := range floats() {
			want := i == j || math.IsNaN(x) && math.IsNaN(y)
			for at := range 2 {
				a, b := plain(), plain()
				a.Nums[at].Min, b.Nums[at].Min = x, y
				checkSame(t, a, b, want)
				a, b = plain(), plain()
				a.Nums[at].Max, b.Nums[at].Max = x, y
				checkSame(t, a, b, want)
			}
		}
	}
	checkSame(t, lone(api.Real{Min: 0}), lone(api.Real{Min: minus0}), false)
	checkSame(t, lone(api.Real{Max: 0}), lone(api.Real{Max: minus0}), false)
	checkSame(t, lone(api.Real{Min: nan, Max: strangeNaN}), lone(api.Real{Min: strangeNaN, Max: nan}), true)
	checkSame(t, lone(api.Real{Min: nan}), lone(api.Real{Min: 0}), false)
}

// Promise 14.3: one element more or less, and other places.
func TestSameOtherLength(t *testing.T) {
	for _, change := range []func(c *api.Cell){
		func(c *api.Cell) { c.Ints = append(c.Ints, api.Whole{}) },
		func(c *api.Cell) { c.Ints = append([]api.Whole{{}}, c.Ints...) },
		func(c *api.Cell) { c.Ints = c.Ints[:1] },
		func(c *api.Cell) { c.Ints = c.Ints[1:] },
		func(c *api.Cell) { c.Ints = nil },
		func(c *api.Cell) { slices.Reverse(c.Ints) },
		func(c *api.Cell) { c.Nums = append(c.Nums, api.Real{}) },
		func(c *api.Cell) { c.Nums = append([]api.Real{{}}, c.Nums...) },
		func(c *api.Cell) { c.Nums = c.Nums[:1] },
		func(c *api.Cell) { c.Nums = c.Nums[1:] },
		func(c *api.Cell) { c.Nums = nil },
		func(c *api.Cell) { slices.Reverse(c.Nums) },
		func(c *api.Cell) { *c = api.Cell{} },
	} {
		c := plain()
		change(&c)
		checkSame(t, plain(), c, false)
		checkSame(t, c, clone(c), true)
	}
	checkSame(t, api.Cell{Ints: []api.Whole{{}}}, api.Cell{}, false)
	checkSame(t, api.Cell{Nums: []api.Real{{}}}, api.Cell{}, false)
	checkSame(t, api.Cell{Nums: []api.Real{{}}}, api.Cell{Ints: []api.Whole{{}}}, false)
}

// Promise 14.3: there is no difference between no list and an empty one.
func TestSameEmpty(t *testing.T) {
	empty := api.Cell{Ints: []api.Whole{}, Nums: []api.Real{}}
	checkSame(t, api.Cell{}, empty, true)
	checkSame(t, empty, clone(empty), true)
	checkSame(t, single(api.Whole{}), single(api.Whole{Squares: []uint32{}}), true)
	checkSame(t, lone(api.Real{}), lone(api.Real{Sum: []byte{}}), true)
	checkSame(t, single(api.Whole{}), empty, false)
}

// Promise 14.3: mixed cells, near each other.
func TestSameMixed(t *testing.T) {
	m := mixer(14)
	count := map[bool]int{}
	for range 20000 {
		s := of(&m, samples())
		a := m.cell(s, full(s))
		b := of(&m, []api.Cell{clone(a), clone(a), m.cell(s, full(s))})
		if m.below(2) == 0 {
			m.spoil(&b)
		}
		want := defineSame(a, b)
		checkSame(t, a, b, want)
		count[want]++
	}
	if count[true] < 2000 || count[false] < 2000 {
		t.Errorf("%d mixed cells are the same, and %d are not", count[true], count[false])
	}
}
