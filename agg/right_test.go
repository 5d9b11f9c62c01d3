package agg_test

import (
	"math"
	"slices"
	"testing"

	"bushel/agg"
	"bushel/api"
)

// checkRight fails if Right has not this answer.
func checkRight(t *testing.T, s api.Schema, mask uint32, c api.Cell, want bool) {
	t.Helper()
	defer settle(t)
	if agg.Right(s, mask, c) != want {
		t.Errorf("Right(%s, %b, %s) is %v", text(s), mask, textOf(c), !want)
	}
}

// changes are changes to a cell like plain, after each of which one condition does not
// hold any more.
func changes() []func(c *api.Cell) {
	l := []func(c *api.Cell){
		func(c *api.Cell) { c.Count = 0 },
		func(c *api.Cell) { c.Count = -1 },
		func(c *api.Cell) { c.Count = least },
		func(c *api.Cell) { c.Ints = append(c.Ints, api.Whole{}) },
		func(c *api.Cell) { c.Ints = c.Ints[1:] },
		func(c *api.Cell) { c.Ints = nil },
		func(c *api.Cell) { c.Nums = append(c.Nums, api.Real{Sum: sumOf()}) },
		func(c *api.Cell) { c.Nums = c.Nums[1:] },
		func(c *api.Cell) { c.Nums = nil },
	}
	for i := range 2 {
		for _, change := range wholeChanges() {
			l = append(l, func(c *api.Cell) { change(&c.Ints[i]) })
		}
		for _, change := range realChanges() {
			l = append(l, func(c *api.Cell) { change(&c.Nums[i]) })
		}
	}
	return l
}

// wholeChanges are changes to an element of Ints.
func wholeChanges() []func(w *api.Whole) {
	return []func(w *api.Whole){
		func(w *api.Whole) { w.Sum, w.Abs = 0, -1 },
		func(w *api.Whole) { w.Sum, w.Abs = -1, -1 },
		func(w *api.Whole) { w.Sum, w.Abs = 1, -1 },
		func(w *api.Whole) { w.Sum, w.Abs = 0, least },
		func(w *api.Whole) { w.Sum, w.Abs = least, least },
		func(w *api.Whole) { w.Sum = w.Abs + 1 },
		func(w *api.Whole) { w.Sum = -w.Abs - 1 },
		func(w *api.Whole) { w.Sum = most },
		func(w *api.Whole) { w.Sum, w.Abs = least, most },
		func(w *api.Whole) { w.Sum, w.Abs = 1, 0 },
		func(w *api.Whole) { w.Sum, w.Abs = -1, 0 },
		func(w *api.Whole) { w.Min = w.Max + 1 },
		func(w *api.Whole) { w.Min, w.Max = most, least },
		func(w *api.Whole) { w.Min, w.Max = 0, -1 },
		func(w *api.Whole) { w.Squares = []uint32{0} },
		func(w *api.Whole) { w.Squares = []uint32{1, 0} },
		func(w *api.Whole) { w.Squares = []uint32{1, 2, 3, 4, 5, 6, 0} },
		func(w *api.Whole) { w.Squares = slices.Repeat([]uint32{1}, 8) },
		func(w *api.Whole) { w.Squares = []uint32{1, 2, 3, 4, 5, 6, 7, 0} },
		func(w *api.Whole) { w.Squares = make([]uint32, 7) },
		func(w *api.Whole) { w.Squares = make([]uint32, 100) },
		func(w *api.Whole) { w.Squares = slices.Repeat([]uint32{math.MaxUint32}, 263) },
	}
}

// realChanges are changes to an element of Nums.
func realChanges() []func(r *api.Real) {
	var l []func(r *api.Real)
	for _, bad := range noSums() {
		l = append(l, func(r *api.Real) { r.Sum = bad })
	}
	for i, x := range ordered() {
		for _, y := range ordered()[i+1:] {
			l = append(l, func(r *api.Real) { r.Min, r.Max = y, x })
		}
	}
	return append(l, func(r *api.Real) { r.Min, r.Max = strangeNaN, 7 })
}

// ordered returns floats in increasing order.
func ordered() []float64 {
	return []float64{-infinity, -largest, -1, -0x1p-1074, minus0, 0, 0x1p-1074, 1, 1 + 0x1p-52, largest, infinity, nan}
}

// notRight returns cells that are not valid for any set of plain's schema, each for one
// reason.
func notRight(m *mixer) []api.Cell {
	var l []api.Cell
	for _, change := range changes() {
		c := plain()
		change(&c)
		l = append(l, c)
		c = m.cell(plainSchema(), 0)
		change(&c)
		l = append(l, c)
	}
	return l
}

// Promise 14.3: valid cells of all sets, those of facts among them.
func TestRight(t *testing.T) {
	m := mixer(7)
	for _, s := range samples() {
		for _, mask := range sets(s) {
			for range 20 {
				checkRight(t, s, mask, m.cell(s, mask), true)
				c, errno := agg.One(s, mask, m.fact(s))
				checkRight(t, s, mask, c, errno == api.OK)
			}
		}
	}
	checkRight(t, plainSchema(), 0, plain(), true)
	checkRight(t, plainSchema(), 7, plain(), true)
	checkRight(t, made(0, 0, 1), 1, api.Cell{Count: 1, Ints: []api.Whole{}, Nums: []api.Real{}}, true)
}

// Promise 14.3: cells that break one condition each.
func TestRightNot(t *testing.T) {
	m := mixer(8)
	for _, c := range notRight(&m) {
		for _, mask := range sets(plainSchema()) {
			checkRight(t, plainSchema(), mask, c, false)
		}
	}
	checkRight(t, plainSchema(), 0, api.Cell{}, false)
	checkRight(t, made(0, 0, 1), 0, api.Cell{}, false)
}

// Promise 14.3: the Key is held against the number of keys of the set, not of all
// dimensions.
func TestRightKey(t *testing.T) {
	for _, s := range samples() {
		for _, mask := range sets(s) {
			n := defineKeys(s, mask)
			m := mixer(9)
			c := m.cell(s, mask)
			for _, k := range []uint64{0, n / 2, n - 1} {
				c.Key = k
				checkRight(t, s, mask, c, true)
			}
			for _, k := range []uint64{n, n + 1, n + 1<<32, n + 1<<63, 1 << 40, 1 << 63, math.MaxUint64} {
				c.Key = k
				checkRight(t, s, mask, c, false)
			}
		}
	}
}

// Promise 14.3: schemas that are not valid, and sets with a bit that is not a dimension.
func TestRightBadSet(t *testing.T) {
	for _, s := range notValid() {
		c := api.Cell{Count: 1, Ints: make([]api.Whole, len(s.Ints)), Nums: slices.Repeat([]api.Real{{Sum: sumOf()}}, len(s.Nums))}
		for _, mask := range []uint32{0, 1, 3, 1 << 31, math.MaxUint32} {
			checkRight(t, s, mask, c, false)
			checkRight(t, s, mask, api.Cell{Count: 1}, false)
		}
	}
	m := mixer(10)
	for _, s := range samples() {
		for _, mask := range noSets(s) {
			c := m.cell(s, 0)
			checkRight(t, s, 0, c, true)
			checkRight(t, s, mask, c, false)
		}
	}
}

// Promise 14.3: the cells of schemas with other numbers of measures.
func TestRightOtherSchema(t *testing.T) {
	m := mixer(11)
	for _, s := range samples() {
		for _, other := range samples() {
			want := len(s.Ints) == len(other.Ints) && len(s.Nums) == len(other.Nums)
			checkRight(t, s, 0, m.cell(other, 0), want)
		}
	}
}

// Promise 14.3: elements of Ints at the edges of what may be.
func TestRightWholes(t *testing.T) {
	s := made(1, 0, 2)
	for _, c := range []struct {
		w    api.Whole
		want bool
	}{
		{api.Whole{}, true},
		{api.Whole{Sum: 5, Abs: 5}, true},
		{api.Whole{Sum: -5, Abs: 5}, true},
		{api.Whole{Sum: 6, Abs: 5}, false},
		{api.Whole{Sum: -6, Abs: 5}, false},
		{api.Whole{Sum: most, Abs: most}, true},
		{api.Whole{Sum: least + 1, Abs: most}, true},
		{api.Whole{Sum: least, Abs: most}, false},
		{api.Whole{Sum: 0, Abs: least}, false},
		{api.Whole{Sum: least, Abs: least}, false},
		{api.Whole{Sum: most, Abs: least}, false},
		{api.Whole{Sum: 0, Abs: -1}, false},
		{api.Whole{Min: 3, Max: 3}, true},
		{api.Whole{Min: least, Max: most}, true},
		{api.Whole{Min: 4, Max: 3}, false},
		{api.Whole{Min: most, Max: least}, false},
		{api.Whole{Squares: slices.Repeat([]uint32{math.MaxUint32}, 7)}, true},
		{api.Whole{Squares: []uint32{0, 0, 0, 0, 0, 0, 1}}, true},
		{api.Whole{Squares: []uint32{1, 0, 0, 0, 0, 0, 0}}, false},
		{api.Whole{Squares: []uint32{0, 0, 0, 0, 0, 0, 0, 1}}, false},
		{api.Whole{Squares: []uint32{1, 0, 0, 0, 0, 0, 0, 0}}, false},
		{api.Whole{Squares: []uint32{}}, true},
		{api.Whole{Squares: []uint32{0}}, false},
		// There is no relation between the others.
		{api.Whole{Sum: 0, Abs: 1, Squares: nil, Min: 7, Max: 9}, true},
	} {
		checkRight(t, s, 1, single(c.w), c.want)
	}
}

// Promise 14.3: any two floats as Min and Max, of which the order decides; sums of the
// greatest length.
func TestRightReals(t *testing.T) {
	s := made(0, 1, 2)
	for i, x := range ordered() {
		for j, y := range ordered() {
			checkRight(t, s, 1, lone(api.Real{Sum: sumOf(1), Min: x, Max: y}), i <= j)
		}
	}
	checkRight(t, s, 1, lone(api.Real{Sum: sumOf(), Min: strangeNaN, Max: nan}), true)
	checkRight(t, s, 1, lone(api.Real{Sum: sumOf(), Min: nan, Max: strangeNaN}), true)
	checkRight(t, s, 1, lone(api.Real{Sum: longestSum()}), true)
	checkRight(t, s, 1, lone(api.Real{Sum: sumOf()}), true)
	checkRight(t, s, 1, lone(api.Real{Sum: nil}), false)
}

// spoil makes a change to a cell after which it may not be valid.
func (m *mixer) spoil(c *api.Cell) {
	switch m.below(8) {
	case 0:
		c.Key = of(m, []uint64{m.long(), c.Key + 1, c.Key * 2, 0})
	case 1:
		c.Count = of(m, []int64{0, -1, 1, most, least, c.Count + 1})
	case 2:
		c.Ints = append(slices.Clone(c.Ints), api.Whole{})
	case 3:
		c.Nums = append(slices.Clone(c.Nums), api.Real{Sum: sumOf()})
	case 4:
		c.Ints, c.Nums = c.Ints[len(c.Ints)/2:], c.Nums[len(c.Nums)/2:]
	default:
		m.spoilMeasure(c)
	}
}

// spoilMeasure makes a change to an element of Ints or of Nums, if there is one.
func (m *mixer) spoilMeasure(c *api.Cell) {
	if len(c.Ints) > 0 && m.below(2) == 0 {
		c.Ints = slices.Clone(c.Ints)
		of(m, wholeChanges())(&c.Ints[m.below(len(c.Ints))])
	} else if len(c.Nums) > 0 {
		c.Nums = slices.Clone(c.Nums)
		of(m, realChanges())(&c.Nums[m.below(len(c.Nums))])
	}
}

// Promise 14.3: mixed cells, valid and not.
func TestRightMixed(t *testing.T) {
	m := mixer(12)
	count := map[bool]int{}
	for range 20000 {
		s := of(&m, samples())
		mask := of(&m, sets(s))
		c := m.cell(s, mask)
		for range m.below(3) {
			m.spoil(&c)
		}
		mask = of(&m, []uint32{mask, mask, mask, of(&m, sets(s)), of(&m, noSets(s))})
		want := defineRight(s, mask, c)
		checkRight(t, s, mask, c, want)
		count[want]++
	}
	if count[true] < 2000 || count[false] < 2000 {
		t.Errorf("%d mixed cells are valid, and %d are not", count[true], count[false])
	}
}
