package agg_test

import (
	"bytes"
	"slices"
	"testing"

	"bushel/agg"
	"bushel/api"
)

// checkRound fails if Get does not invert Put for a valid cell, or Put does not invert
// Get.
func checkRound(t *testing.T, s api.Schema, mask uint32, c api.Cell) {
	t.Helper()
	defer settle(t)
	b := agg.Put(c)
	checkGet(t, s, mask, b, c, len(b))
	got, n, _ := agg.Get(s, mask, append(b, 1, 2, 3))
	if again := agg.Put(got); n != len(b) || !bytes.Equal(again, b) {
		t.Errorf("%d is read and put as %d", b, again)
	}
}

// Promise 14.5: Get of what Put returned, for valid cells of all sets, and Put of what
// Get returned.
func TestRound(t *testing.T) {
	m := mixer(23)
	for _, s := range samples() {
		for _, mask := range sets(s) {
			for range 10 {
				checkRound(t, s, mask, m.cell(s, mask))
			}
		}
	}
	for _, r := range written() {
		checkRound(t, r.s, full(r.s), r.c)
	}
}

// Promise 14.5: the same for the cells of facts, and for their combinations.
func TestRoundOfFacts(t *testing.T) {
	m := mixer(24)
	for _, s := range samples() {
		for range 100 {
			l := m.oneKey(s, 1+m.below(5))
			c, errno := joinAll(s, l)
			for _, f := range l {
				one, _ := agg.One(s, 0, f)
				checkRound(t, s, 0, one)
			}
			if errno == api.OK {
				checkRound(t, s, 0, c)
			}
		}
	}
}

// Promise 14.5: Put of what Get returned is the bytes that Get has read, also of bytes
// that nobody has put.
func TestRoundOfBytes(t *testing.T) {
	m := mixer(25)
	count := 0
	for range 20000 {
		s := of(&m, samples())
		b := m.spoilBytes(definePut(m.cell(s, 0)))
		c, n, errno := agg.Get(s, 0, b)
		if errno != api.OK {
			continue
		}
		count++
		if again := agg.Put(c); !bytes.Equal(again, b[:n]) {
			t.Fatalf("%d is read and put as %d", b[:n], again)
		}
	}
	if count < 2000 {
		t.Errorf("only %d mixed bytes are cells", count)
	}
}

// oneKey returns n facts, of which the sums fit.
func (m *mixer) oneKey(s api.Schema, n int) []api.Fact {
	var l []api.Fact
	for range n {
		f := m.fact(s)
		for i := range f.Ints {
			f.Ints[i] >>= 3
		}
		l = append(l, f)
	}
	return l
}

// joinAll returns the combination of the cells of facts for the empty set, or the first
// error.
func joinAll(s api.Schema, l []api.Fact) (api.Cell, api.Errno) {
	c, errno := agg.One(s, 0, l[0])
	for _, f := range l[1:] {
		one, _ := agg.One(s, 0, f)
		if errno == api.OK {
			c, errno = agg.Join(c, one)
		}
	}
	return c, errno
}

// orders holds all orders of three.
var orders = [][]int{{0, 1, 2}, {0, 2, 1}, {1, 0, 2}, {1, 2, 0}, {2, 0, 1}, {2, 1, 0}}

// checkOrders fails if the combination of three cells is not the same in all orders,
// whether the first two or the last two are joined first. It reports whether there is
// one.
func checkOrders(t *testing.T, l [3]api.Cell) bool {
	t.Helper()
	defer settle(t)
	want, wanted := defineJoin(l[0], l[1])
	if wanted == api.OK {
		want, wanted = defineJoin(want, l[2])
	}
	for _, o := range orders {
		a, b, c := l[o[0]], l[o[1]], l[o[2]]
		got, errno := agg.Join(a, b)
		if errno == api.OK {
			got, errno = agg.Join(got, c)
		}
		checkCell(t, "the combination of the first two and the third one", got, errno, want, wanted)
		got, errno = agg.Join(b, c)
		if errno == api.OK {
			got, errno = agg.Join(a, got)
		}
		checkCell(t, "the combination of the first one and the last two", got, errno, want, wanted)
	}
	return wanted == api.OK
}

// Promise 14.5: three cells in all orders. What does not fit does so in no order.
func TestOrders(t *testing.T) {
	m := mixer(26)
	count := map[bool]int{}
	for range 4000 {
		s := of(&m, samples())
		var l [3]api.Cell
		for i := range l {
			l[i], _ = agg.One(s, 0, m.oneKey(s, 1)[0])
			if m.below(4) == 0 {
				l[i] = m.cell(s, 0)
				for j := range l[i].Nums {
					// Totals that are too long on the way may cancel at the end.
					l[i].Nums[j].Sum = sumOf(of(&m, floats()), of(&m, floats()))
				}
			}
		}
		count[checkOrders(t, l)]++
	}
	if count[true] < 1000 || count[false] < 200 {
		t.Errorf("%d combinations of three cells exist, and %d do not", count[true], count[false])
	}
}

// Promise 14.5: three floats in all orders, each in all places. Sums of floats that are
// rounded on the way would differ.
func TestOrdersOfFloats(t *testing.T) {
	s := made(0, 1, 2)
	lists := [][]float64{{0.1, 0.2, -0.3}, {1 << 53, 1, -1 << 53}, {largest, largest, -largest}, {1, 1e100, -1e100}}
	for _, x := range floats() {
		for _, y := range floats() {
			for _, z := range []float64{0, minus0, nan, infinity, -infinity, 1} {
				lists = append(lists, []float64{x, y, z})
			}
		}
	}
	for _, l := range lists {
		var cells [3]api.Cell
		for i, x := range l {
			cells[i], _ = agg.One(s, 0, api.Fact{Codes: []int{0}, Nums: []float64{x}})
		}
		if !checkOrders(t, cells) {
			t.Fatalf("the cells of %v cannot be joined", l)
		}
		c, _ := agg.Join(cells[1], cells[2])
		c, _ = agg.Join(c, cells[0])
		if !bytes.Equal(c.Nums[0].Sum, sumOf(l...)) {
			t.Fatalf("the sum of %v is %d", l, c.Nums[0].Sum)
		}
	}
}

// Promise 14.5: many facts, in the given order, in the reverse one, and by halves.
func TestManyFacts(t *testing.T) {
	m := mixer(27)
	s := made(2, 2, 2, 3)
	for range 20 {
		var l []api.Fact
		for range 200 {
			f := m.fact(s)
			for i := range f.Ints {
				f.Ints[i] >>= 10
			}
			l = append(l, f)
		}
		want, errno := joinAll(s, l)
		if errno != api.OK || want.Count != 200 || !agg.Right(s, 0, want) {
			t.Fatalf("the combination of 200 cells has the error %d and is %s", errno, textOf(want))
		}
		first, _ := joinAll(s, l[:77])
		second, _ := joinAll(s, l[77:])
		got, errno := agg.Join(second, first)
		checkCell(t, "the combination of two parts", got, errno, want, api.OK)
		slices.Reverse(l)
		got, errno = joinAll(s, l)
		checkCell(t, "the combination of the reverse", got, errno, want, api.OK)
	}
}
