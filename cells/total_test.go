package cells_test

import (
	"math"
	"slices"
	"testing"

	"bushel/api"
	"bushel/cells"
)

// checkTotal fails if Total has not this cell and this error.
func checkTotal(t *testing.T, l []api.Cell, want api.Cell, wanted api.Errno) {
	t.Helper()
	got, errno := cells.Total(l)
	checkCell(t, got, errno, want, wanted, "Total", len(l), brief(l))
}

// checkTotalDefined fails if Total is not as defined. It returns the error.
func checkTotalDefined(t *testing.T, l []api.Cell) api.Errno {
	t.Helper()
	want, wanted := defineTotal(l)
	checkTotal(t, l, want, wanted)
	return wanted
}

// Promise 15.4: no cells have no total.
func TestTotalNone(t *testing.T) {
	checkTotal(t, nil, api.Cell{}, api.ErrNone)
	checkTotal(t, []api.Cell{}, api.Cell{}, api.ErrNone)
	checkTotal(t, plains(3)[:0], api.Cell{}, api.ErrNone)
}

// Promise 15.4: written out: one cell and many, with Key 0 and with other Keys.
func TestTotalWritten(t *testing.T) {
	for _, k := range []uint64{0, 1, 7, 1 << 32, math.MaxUint64} {
		checkTotal(t, plains(k), plain(0), api.OK)
		checkTotal(t, plains(k, 23), doubled(0), api.OK)
		checkTotal(t, plains(0, k), doubled(0), api.OK)
		checkTotal(t, plains(k, k), doubled(0), api.OK)
	}
	checkTotal(t, []api.Cell{{Key: 9, Count: 1}, {Key: 10, Count: 20}, {Key: 300, Count: 300}}, api.Cell{Count: 321}, api.OK)
	checkTotal(t, []api.Cell{{}}, api.Cell{}, api.OK)
	checkTotal(t, make([]api.Cell, 1000), api.Cell{}, api.OK)
	checkTotal(t, keyed(make([]uint64, 1000)...), api.Cell{Count: 1000}, api.OK)
}

// Promise 15.4: the Keys do not matter, nor does their order.
func TestTotalKeys(t *testing.T) {
	for _, keys := range notIncreasing() {
		checkTotal(t, keyed(keys...), api.Cell{Count: int64(len(keys))}, api.OK)
	}
	m := mixer(18)
	for _, s := range samples() {
		l := m.list(s, full(s), 30)
		want, errno := defineTotal(l)
		if errno != api.OK {
			t.Fatalf("the definition has the error %d", errno)
		}
		checkTotal(t, l, want, api.OK)
		slices.Reverse(l)
		checkTotal(t, l, want, api.OK)
		for i := range l {
			l[i].Key = m.long()
		}
		checkTotal(t, l, want, api.OK)
	}
}

// Promise 15.4: the total of a valid list is what it is rolled up to without
// dimensions.
func TestTotalIsRoll(t *testing.T) {
	m := mixer(19)
	for range 500 {
		s := of(&m, samples())
		from := of(&m, sets(s))
		l := m.list(s, from, 1+m.below(20))
		total, errno := cells.Total(l)
		if errno != api.OK {
			t.Fatalf("Total has the error %d", errno)
		}
		checkRoll(t, s, from, 0, l, []api.Cell{total}, api.OK)
	}
}

// Promise 15.4: cells that cannot be joined, in each place.
func TestTotalClash(t *testing.T) {
	for _, c := range clashes() {
		for i := range 4 {
			l := plains(3, 1, 2, 9, 9)
			c.change(&l[i], &l[i+1])
			checkTotal(t, l[i:], api.Cell{}, c.want)
			checkTotalDefined(t, l)
			checkTotalDefined(t, append(l, plain(7), api.Cell{}))
		}
	}
	checkTotal(t, []api.Cell{plain(1), {Key: 2, Count: 1}}, api.Cell{}, api.ErrArg)
	checkTotal(t, []api.Cell{{Key: 2, Count: 1}, plain(2)}, api.Cell{}, api.ErrArg)
}

// Promise 15.4: of several errors the one of the first cell that cannot be joined with
// all before it.
func TestTotalOrder(t *testing.T) {
	rot, over, short := plain(5), plain(5), plain(5)
	rot.Nums[0].Sum = nil
	over.Count = most
	short.Ints = nil
	for _, c := range []struct {
		l    []api.Cell
		want api.Errno
	}{
		{[]api.Cell{plain(1), rot, over}, api.ErrRot},
		{[]api.Cell{plain(1), over, rot}, api.ErrOver},
		{[]api.Cell{plain(1), short, rot}, api.ErrArg},
		{[]api.Cell{plain(1), rot, short}, api.ErrRot},
		{[]api.Cell{rot, over}, api.ErrOver},
		{[]api.Cell{rot, short}, api.ErrArg},
		{[]api.Cell{short, over}, api.ErrArg},
		{[]api.Cell{plain(1), plain(2), plain(3), over, short, rot}, api.ErrOver},
	} {
		checkTotal(t, c.l, api.Cell{}, c.want)
	}
}

// Promise 15.4: a single cell is returned with Key 0, valid or not.
func TestTotalOfOneNotValid(t *testing.T) {
	for _, fault := range faults() {
		c := plain(6)
		fault(&c)
		want := clone(c)
		want.Key = 0
		checkTotal(t, []api.Cell{c}, want, api.OK)
		checkTotalDefined(t, []api.Cell{c, c})
		checkTotalDefined(t, []api.Cell{plain(0), c})
	}
}

// Promise 15.4: mixed cells.
func TestTotalMixed(t *testing.T) {
	m := mixer(20)
	count := map[api.Errno]int{}
	for range 4000 {
		s := of(&m, samples())
		l := m.list(s, full(s), m.below(20))
		for range m.below(3) {
			if len(l) > 0 {
				m.spoil(&l[m.below(len(l))])
			}
		}
		count[checkTotalDefined(t, l)]++
	}
	for _, errno := range []api.Errno{api.OK, api.ErrArg, api.ErrOver, api.ErrRot, api.ErrNone} {
		if count[errno] < 50 {
			t.Errorf("only %d mixed lists have the error %d", count[errno], errno)
		}
	}
}
