package cells_test

import (
	"math"
	"slices"
	"testing"

	"bushel/api"
	"bushel/cells"
)

// checkRoll fails if Roll has not this list and this error.
func checkRoll(t *testing.T, s api.Schema, from, to uint32, l []api.Cell, want []api.Cell, wanted api.Errno) {
	t.Helper()
	got, errno := cells.Roll(s, from, to, l)
	checkList(t, got, errno, want, wanted, "Roll", s, from, to, len(l), brief(l))
}

// checkRollDefined fails if Roll is not as defined. It returns the error.
func checkRollDefined(t *testing.T, s api.Schema, from, to uint32, l []api.Cell) api.Errno {
	t.Helper()
	want, wanted := defineRoll(s, from, to, l)
	checkRoll(t, s, from, to, l, want, wanted)
	return wanted
}

// Promise 15.4: the chapter's example.
func TestRollExample(t *testing.T) {
	s := made(0, 0, 2)
	l, _ := cells.Fold(s, 1, coded(1, 0, 1))
	checkRoll(t, s, 1, 0, l, []api.Cell{{Key: 0, Count: 3}}, api.OK)
}

// Promise 15.4: written out: to the same set, to smaller ones, and to the empty set.
func TestRollWritten(t *testing.T) {
	s := made(0, 0, 2, 3, 4)
	// The codes are 0 0 1, 0 2 3, 1 0 1, 1 1 0 and 1 2 3.
	l := []api.Cell{{Key: 1, Count: 1}, {Key: 11, Count: 10}, {Key: 13, Count: 100}, {Key: 16, Count: 1000}, {Key: 23, Count: 10000}}
	for _, c := range []struct {
		to   uint32
		want []api.Cell
	}{
		{7, l},
		{6, []api.Cell{{Key: 1, Count: 101}, {Key: 4, Count: 1000}, {Key: 11, Count: 10010}}},
		{5, []api.Cell{{Key: 1, Count: 1}, {Key: 3, Count: 10}, {Key: 4, Count: 1000}, {Key: 5, Count: 100}, {Key: 7, Count: 10000}}},
		{4, []api.Cell{{Key: 0, Count: 1000}, {Key: 1, Count: 101}, {Key: 3, Count: 10010}}},
		{3, []api.Cell{{Key: 0, Count: 1}, {Key: 2, Count: 10}, {Key: 3, Count: 100}, {Key: 4, Count: 1000}, {Key: 5, Count: 10000}}},
		{2, []api.Cell{{Key: 0, Count: 101}, {Key: 1, Count: 1000}, {Key: 2, Count: 10010}}},
		{1, []api.Cell{{Key: 0, Count: 11}, {Key: 1, Count: 11100}}},
		{0, []api.Cell{{Key: 0, Count: 11111}}},
	} {
		checkRoll(t, s, 7, c.to, l, c.want, api.OK)
	}
}

// Promise 15.4: all numbers of cells that meet, and of cells that do not.
func TestRollNumbers(t *testing.T) {
	s := plainSchema()
	checkRoll(t, s, 7, 6, plains(0, 5, 17), []api.Cell{plain(0), doubled(5)}, api.OK)
	checkRoll(t, s, 7, 1, plains(0, 5, 17), []api.Cell{doubled(0), plain(1)}, api.OK)
	checkRoll(t, s, 7, 7, plains(0, 5, 17), plains(0, 5, 17), api.OK)
	checkRoll(t, s, 7, 0, plains(5), plains(0), api.OK)
	checkRoll(t, s, 7, 0, plains(5, 6), []api.Cell{doubled(0)}, api.OK)
	checkRoll(t, s, 6, 4, plains(3, 7, 8), []api.Cell{plain(0), doubled(3)}, api.OK)
	checkRoll(t, s, 0, 0, plains(0), plains(0), api.OK)
	a, b := plain(2), plain(3)
	b.Nums[0] = api.Real{Sum: sumOf(nan), Min: minus0, Max: nan}
	b.Ints[0] = api.Whole{Sum: 9, Abs: 10, Squares: []uint32{math.MaxUint32, math.MaxUint32, math.MaxUint32}, Min: -6, Max: 0}
	want := doubled(0)
	want.Nums[0] = api.Real{Sum: sumOf(0.5, 0.25, nan), Min: minus0, Max: nan}
	want.Ints[0] = api.Whole{Sum: 5, Abs: 16, Squares: []uint32{13, 15, 16, 1}, Min: -6, Max: 1}
	checkRoll(t, s, 4, 0, []api.Cell{a, b}, []api.Cell{want}, api.OK)
}

// Promise 15.4: every key of a set at once, to each subset.
func TestRollAllKeys(t *testing.T) {
	m := mixer(13)
	s := plainSchema()
	for _, from := range sets(s) {
		var l []api.Cell
		for k := range defineKeys(s, from) {
			l = append(l, m.cell(s, k))
		}
		for _, to := range sets(s) {
			if errno := checkRollDefined(t, s, from, to, l); (errno == api.OK) != (from|to == from) {
				t.Errorf("the definition has the error %d from %b to %b", errno, from, to)
			}
		}
	}
}

// Promise 15.4: no cells make no cells.
func TestRollNothing(t *testing.T) {
	for _, s := range samples() {
		for _, from := range sets(s) {
			checkRoll(t, s, from, 0, nil, nil, api.OK)
			checkRoll(t, s, from, from, []api.Cell{}, nil, api.OK)
			checkRoll(t, s, from, from&5, plains(3)[:0], nil, api.OK)
		}
	}
}

// Promise 15.4: sets that are not subsets, with cells and without, with dimensions and
// with other bits.
func TestRollNone(t *testing.T) {
	m := mixer(14)
	for _, s := range samples() {
		for _, from := range sets(s) {
			l := m.list(s, from, 3)
			for _, to := range append(sets(s), noSets(s)...) {
				if from|to == from {
					continue
				}
				checkRoll(t, s, from, to, l, nil, api.ErrNone)
				checkRoll(t, s, from, to, nil, nil, api.ErrNone)
			}
		}
	}
}

// Promise 15.4: schemas and sets from that are not valid, with cells and without, and
// whatever the set to is.
func TestRollBadSet(t *testing.T) {
	m := mixer(15)
	for _, s := range notValid() {
		l := []api.Cell{{Count: 1, Ints: make([]api.Whole, len(s.Ints)), Nums: slices.Repeat([]api.Real{{Sum: sumOf()}}, len(s.Nums))}}
		for _, from := range []uint32{0, 1, 3, 1 << 31, math.MaxUint32} {
			for _, to := range []uint32{0, from, 4, 1 << 31, math.MaxUint32} {
				checkRoll(t, s, from, to, l, nil, api.ErrArg)
				checkRoll(t, s, from, to, nil, nil, api.ErrArg)
			}
		}
	}
	for _, s := range samples() {
		for _, from := range noSets(s) {
			for _, to := range append(noSets(s), from, 0, 1, full(s)) {
				checkRoll(t, s, from, to, m.list(s, 0, 1), nil, api.ErrArg)
				checkRoll(t, s, from, to, nil, nil, api.ErrArg)
			}
		}
	}
}

// Promise 15.4: lists that are not valid, and whatever the set to is.
func TestRollArg(t *testing.T) {
	s := plainSchema()
	for _, fault := range faults() {
		for i := range 3 {
			l := plains(1, 5, 7)
			fault(&l[i])
			for _, to := range []uint32{0, 1, 3, 7, 8, 1 << 31, math.MaxUint32} {
				checkRoll(t, s, 7, to, l, nil, api.ErrArg)
			}
		}
	}
	bare := made(0, 0, 4096, 4096, 4096)
	for _, keys := range append(notIncreasing(), []uint64{1 << 36}, []uint64{1 << 33, 3}, []uint64{1 << 35, 1 << 35}) {
		for _, to := range []uint32{0, 1, 3, 7, 8, 1 << 31, math.MaxUint32} {
			checkRoll(t, bare, 7, to, keyed(keys...), nil, api.ErrArg)
		}
	}
	// Valid for the set of all, but not for from.
	checkRoll(t, s, 7, 2, plains(0, 12), []api.Cell{doubled(0)}, api.OK)
	checkRoll(t, s, 6, 2, plains(0, 12), nil, api.ErrArg)
	checkRoll(t, s, 6, 1, plains(0, 12), nil, api.ErrArg)
}

// Promise 15.4: cells that meet and cannot be joined, whatever comes before, between and
// after them.
func TestRollClash(t *testing.T) {
	s := plainSchema()
	keys := []uint64{0, 3, 5, 12, 15, 17, 23}
	for _, c := range clashes() {
		if !c.valid {
			continue
		}
		// Without the first dimension the first three meet the next three.
		for i := range 3 {
			l := plains(keys...)
			c.change(&l[i], &l[i+3])
			checkRoll(t, s, 7, 6, l, nil, c.want)
			checkRoll(t, s, 7, 2, l, nil, c.want)
			checkRoll(t, s, 7, 0, l, nil, c.want)
			checkRoll(t, s, 7, 7, l, l, api.OK)
			if errno := checkRollDefined(t, s, 7, 1, l); errno != api.OK && c.want != errno {
				t.Errorf("the definition has the error %d", errno)
			}
		}
		// Three cells of which only the last two cannot be joined.
		l := plains(0, 12, 13)
		c.change(&l[1], &l[2])
		checkRollDefined(t, s, 7, 4, l)
		checkRoll(t, s, 7, 0, l, nil, c.want)
	}
}

// Promise 15.4: totals that are too long on the way cancel at the end: the order of the
// list decides whether they are.
func TestRollCancel(t *testing.T) {
	s := made(0, 1, 3)
	sum := longestSum()
	minus := append([]byte{48}, sum[1:]...)
	with := func(sums ...[]byte) []api.Cell {
		var l []api.Cell
		for i, b := range sums {
			l = append(l, api.Cell{Key: uint64(i), Count: 1, Nums: []api.Real{{Sum: b}}})
		}
		return l
	}
	checkRoll(t, s, 1, 0, with(sum, sumOf(1), minus), nil, api.ErrOver)
	checkRoll(t, s, 1, 0, with(sumOf(1), sum, minus), nil, api.ErrOver)
	checkRoll(t, s, 1, 0, with(sum, minus, sumOf(1)), []api.Cell{{Count: 3, Nums: []api.Real{{Sum: sumOf(1)}}}}, api.OK)
	checkRoll(t, s, 1, 0, with(minus, sumOf(1), sum), []api.Cell{{Count: 3, Nums: []api.Real{{Sum: sumOf(1)}}}}, api.OK)
}

// Promise 15.4: the result is in order each time.
func TestRollAgain(t *testing.T) {
	m := mixer(16)
	s := made(1, 1, 40, 40)
	l := m.list(s, 3, 300)
	want, _ := defineRoll(s, 3, 2, l)
	for range 30 {
		checkRoll(t, s, 3, 2, l, want, api.OK)
		checkRoll(t, s, 3, 3, l, l, api.OK)
	}
}

// Promise 15.4: mixed lists, valid and not, and mixed sets.
func TestRollMixed(t *testing.T) {
	m := mixer(17)
	count := map[api.Errno]int{}
	for range 5000 {
		s := of(&m, samples())
		from := of(&m, sets(s))
		l := m.list(s, from, m.below(20))
		if len(l) > 0 && m.below(2) == 0 {
			m.spoil(&l[m.below(len(l))])
		}
		to := from & m.word()
		if m.below(6) == 0 {
			to = of(&m, append(sets(s), noSets(s)...))
		}
		count[checkRollDefined(t, s, from, to, l)]++
	}
	for _, errno := range []api.Errno{api.OK, api.ErrArg, api.ErrOver, api.ErrNone} {
		if count[errno] < 200 {
			t.Errorf("only %d mixed lists have the error %d", count[errno], errno)
		}
	}
}
