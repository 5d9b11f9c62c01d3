package cells_test

import (
	"math"
	"slices"
	"testing"

	"bushel/agg"
	"bushel/api"
	"bushel/cells"
	"bushel/fact"
	"bushel/schema"
)

// fill writes x over a list, and over what stands behind it in its memory.
func fill[E any](l []E, x E) {
	l = l[:cap(l)]
	for i := range l {
		l[i] = x
	}
}

// overwrite writes over all lists of a cell, and over what is behind them.
func overwrite(c api.Cell) {
	for _, w := range c.Ints {
		fill(w.Squares, 77)
	}
	for _, r := range c.Nums {
		fill(r.Sum, 77)
	}
	fill(c.Ints, api.Whole{Sum: 77})
	fill(c.Nums, api.Real{Max: 77})
}

// overwriteAll writes over all cells of a list.
func overwriteAll(l []api.Cell) {
	for _, c := range l {
		overwrite(c)
	}
	fill(l, api.Cell{Key: 77, Count: 77})
}

// extend returns the same list, with x behind its end in its memory.
func extend[E any](l []E, x E) []E {
	return slices.Concat(l, []E{x, x})[:len(l)]
}

// behind returns the same cells with lists that have more elements behind their ends.
func behind(l []api.Cell) []api.Cell {
	l = cloneAll(l)
	for _, c := range l {
		for i := range c.Ints {
			c.Ints[i].Squares = extend(c.Ints[i].Squares, 7)
		}
		for i := range c.Nums {
			c.Nums[i].Sum = extend(c.Nums[i].Sum, 8)
		}
	}
	for i := range l {
		l[i].Ints, l[i].Nums = extend(l[i].Ints, api.Whole{Sum: 9}), extend(l[i].Nums, api.Real{Max: 10})
	}
	return extend(l, api.Cell{Key: 11})
}

// unchanged reports whether a list that behind has returned is still the same as l, to
// the last bit of each NaN, with what is behind its lists.
func unchanged(l, is []api.Cell) bool {
	ok := defineSame(l, is) && is[:len(is)+1][len(is)].Key == 11
	for i, c := range is {
		n, m := len(c.Ints), len(c.Nums)
		ok = ok && c.Ints[:n+1][n].Sum == 9 && c.Nums[:m+1][m].Max == 10
		for _, w := range c.Ints {
			ok = ok && w.Squares[:len(w.Squares)+1][len(w.Squares)] == 7
		}
		for j, r := range c.Nums {
			was := l[i].Nums[j]
			ok = ok && r.Sum[:len(r.Sum)+1][len(r.Sum)] == 8 &&
				math.Float64bits(r.Min) == math.Float64bits(was.Min) && math.Float64bits(r.Max) == math.Float64bits(was.Max)
		}
	}
	return ok
}

// cloneSchema returns the same schema in memory of its own.
func cloneSchema(s api.Schema) api.Schema {
	return api.Schema{Dims: slices.Clone(s.Dims), Ints: slices.Clone(s.Ints), Nums: slices.Clone(s.Nums), Views: slices.Clone(s.Views)}
}

// overwriteSchema writes over all lists of a schema, which is not valid then.
func overwriteSchema(s api.Schema) {
	fill(s.Dims, api.Dim{Name: "x"})
	fill(s.Ints, "")
	fill(s.Nums, "")
	fill(s.Views, math.MaxUint32)
}

// askAll calls all functions that take cells.
func askAll(s api.Schema, from, to uint32, a, b []api.Cell) {
	cells.Right(s, from, a)
	cells.Same(a, b)
	cells.Find(a, 5)
	cells.Merge(a, b)
	cells.Merge(a, a)
	cells.Roll(s, from, to, a)
	cells.Roll(s, from, from, a)
	cells.Total(a)
}

// R4 for 15.1, 15.3 and 15.4: no function changes its schema or its cells, or what is
// behind their lists, with an error or without.
func TestCellsStay(t *testing.T) {
	m := mixer(27)
	for range 1500 {
		s := of(&m, samples())
		from := of(&m, sets(s))
		a, b := m.list(s, from, m.below(12)), m.list(s, from, m.below(12))
		if len(a) > 0 && m.below(2) == 0 {
			m.spoil(&a[m.below(len(a))])
		}
		isA, isB, is := behind(a), behind(b), cloneSchema(s)
		askAll(is, from, from&m.word(), isA, isB)
		askAll(is, of(&m, noSets(s)), 0, isB, isA)
		askAll(is, from, of(&m, noSets(s)), isB, isA)
		if !unchanged(a, isA) || !unchanged(b, isB) {
			t.Fatalf("%v and %v became %v and %v", a, b, isA, isB)
		}
		if !schema.Same(s, is) {
			t.Fatalf("%v became %v", s, is)
		}
	}
}

// R4 for 15.2: Fold leaves its schema and its facts as they are, and keeps nothing of
// them.
func TestFoldKeepsNothing(t *testing.T) {
	m := mixer(28)
	for range 500 {
		s := of(&m, samples())
		mask := of(&m, append(sets(s), noSets(s)...))
		l := m.facts(s, m.below(12))
		if len(l) > 0 && m.below(4) == 0 {
			m.spoilFact(&l[0])
		}
		var given []api.Fact
		for _, f := range l {
			given = append(given, api.Fact{Codes: extend(f.Codes, 7), Ints: extend(f.Ints, 8), Nums: extend(f.Nums, 9)})
		}
		given = extend(given, api.Fact{Codes: []int{10}})
		is := cloneSchema(s)
		want, wanted := defineFold(s, mask, l)
		got, errno := cells.Fold(is, mask, given)
		checkFactsStay(t, l, given)
		if !schema.Same(s, is) {
			t.Fatalf("%v became %v", s, is)
		}
		for _, f := range given {
			fill(f.Codes, -1)
			fill(f.Ints, least)
			fill(f.Nums, nan)
		}
		fill(given, api.Fact{})
		overwriteSchema(is)
		checkList(t, got, errno, want, wanted, "Fold")
		checkFold(t, is, mask, l, nil, api.ErrArg)
		checkFold(t, s, mask, l, want, wanted)
	}
}

// checkFactsStay fails if facts, or what is behind their lists, have changed.
func checkFactsStay(t *testing.T, l, is []api.Fact) {
	t.Helper()
	ok := slices.EqualFunc(l, is, fact.Same) && len(is[:len(is)+1][len(is)].Codes) == 1
	for _, f := range is {
		ok = ok && f.Codes[:len(f.Codes)+1][len(f.Codes)] == 7 && f.Ints[:len(f.Ints)+1][len(f.Ints)] == 8 && f.Nums[:len(f.Nums)+1][len(f.Nums)] == 9
	}
	if !ok {
		t.Fatalf("%v became %v", l, is)
	}
}

// R4 for 15.3 and 15.4: Merge, Roll and Total keep nothing of their cells and of their
// schema, and their results are not of that memory: also cells that are not combined
// with others.
func TestCellsAreNotKept(t *testing.T) {
	m := mixer(29)
	for range 1000 {
		s := of(&m, samples())
		from := of(&m, sets(s))
		to := of(&m, []uint32{from, from & m.word()})
		a, b := m.list(s, from, m.below(8)), m.list(s, from, m.below(8))
		for _, call := range []func(s api.Schema, a, b []api.Cell) ([]api.Cell, api.Errno){
			func(_ api.Schema, a, b []api.Cell) ([]api.Cell, api.Errno) { return cells.Merge(a, b) },
			func(s api.Schema, a, _ []api.Cell) ([]api.Cell, api.Errno) { return cells.Roll(s, from, to, a) },
			func(s api.Schema, a, _ []api.Cell) ([]api.Cell, api.Errno) { return cells.Roll(s, from, from, a) },
			func(_ api.Schema, a, _ []api.Cell) ([]api.Cell, api.Errno) { return listOf(cells.Total(a)) },
		} {
			want, wanted := call(s, a, b)
			want = cloneAll(want)
			is, isA, isB := cloneSchema(s), behind(a), behind(b)
			got, errno := call(is, isA, isB)
			overwriteAll(isA)
			overwriteAll(isB)
			overwriteSchema(is)
			checkList(t, got, errno, want, wanted, "after the arguments changed")
			isA, isB = cloneAll(a), cloneAll(b)
			got, _ = call(s, isA, isB)
			overwriteAll(got)
			if !defineSame(a, isA) || !defineSame(b, isB) {
				t.Fatalf("the result shares memory with %v or %v", a, b)
			}
			got, errno = call(s, isA, isB)
			checkList(t, got, errno, want, wanted, "after a result changed")
		}
	}
}

// listOf returns the cell of a result as a list.
func listOf(c api.Cell, errno api.Errno) ([]api.Cell, api.Errno) {
	if errno != api.OK {
		return nil, errno
	}
	return []api.Cell{c}, api.OK
}

// R4 for 15.3: Merge of a list with itself leaves it as it is.
func TestMergeWithItself(t *testing.T) {
	l := plains(1, 5, 9)
	got, _ := cells.Merge(l, l)
	checkSame(t, got, []api.Cell{doubled(1), doubled(5), doubled(9)}, true)
	overwriteAll(got)
	checkSame(t, l, plains(1, 5, 9), true)
	// Lists that are parts of one.
	all := plains(1, 5, 9, 11)
	checkMerge(t, all[:3], all[1:], []api.Cell{plain(1), doubled(5), doubled(9), plain(11)}, api.OK)
	checkSame(t, all, plains(1, 5, 9, 11), true)
}

// checkApart fails if changing one list of a result changes another one of it, or of
// another result.
func checkApart(t *testing.T, call func() []api.Cell) {
	t.Helper()
	before := cloneAll(call())
	other := call()
	for i, c := range before {
		changes := []func(c api.Cell){func(c api.Cell) { fill(c.Ints, api.Whole{Sum: 77}) }, func(c api.Cell) { fill(c.Nums, api.Real{Max: 77}) }}
		for j := range c.Ints {
			changes = append(changes, func(c api.Cell) { fill(c.Ints[j].Squares, 77) })
		}
		for j := range c.Nums {
			changes = append(changes, func(c api.Cell) { fill(c.Nums[j].Sum, 77) })
		}
		for _, change := range changes {
			got, want := call(), cloneAll(before)
			change(got[i])
			change(want[i])
			if !slices.EqualFunc(got, want, agg.Same) {
				t.Fatalf("two lists of %v share memory", before)
			}
		}
	}
	overwriteAll(call())
	if !slices.EqualFunc(other, before, agg.Same) {
		t.Fatalf("two results share memory: %v", before)
	}
}

// R4 for 15.2 to 15.4: what Fold, Merge, Roll and Total return belongs to the caller,
// and no two lists of it share memory.
func TestResultsAreNew(t *testing.T) {
	m := mixer(30)
	for _, s := range samples() {
		for range 3 {
			mask := of(&m, sets(s))
			l, a, b := m.facts(s, 6), m.list(s, mask, 4), m.list(s, mask, 4)
			checkApart(t, func() []api.Cell { return firstOf(cells.Fold(s, mask, l)) })
			checkApart(t, func() []api.Cell { return firstOf(cells.Merge(a, b)) })
			checkApart(t, func() []api.Cell { return firstOf(cells.Merge(a, nil)) })
			checkApart(t, func() []api.Cell { return firstOf(cells.Roll(s, mask, mask, a)) })
			checkApart(t, func() []api.Cell { return firstOf(cells.Roll(s, mask, mask/2&mask, a)) })
			checkApart(t, func() []api.Cell { return firstOf(listOf(cells.Total(a))) })
			checkApart(t, func() []api.Cell { return firstOf(listOf(cells.Total(a[:1]))) })
		}
	}
}

// firstOf returns the list of a result.
func firstOf(l []api.Cell, _ api.Errno) []api.Cell {
	return l
}

// R4: cells that share their memory with each other stay as they are, and what is
// returned of them does not share any.
func TestSharedCells(t *testing.T) {
	s := plainSchema()
	one := plain(0)
	l := slices.Repeat([]api.Cell{one}, 3)
	l[1].Key, l[2].Key = 5, 17
	checkApart(t, func() []api.Cell { return firstOf(cells.Merge(l, nil)) })
	checkApart(t, func() []api.Cell { return firstOf(cells.Merge(l, l[1:2])) })
	checkApart(t, func() []api.Cell { return firstOf(cells.Roll(s, 7, 7, l)) })
	checkRoll(t, s, 7, 6, l, []api.Cell{plain(0), doubled(5)}, api.OK)
	checkSame(t, []api.Cell{one}, plains(0), true)
}

// R5: what was asked before makes no difference, with errors and other schemas in
// between.
func TestAskedAgain(t *testing.T) {
	s := made(1, 1, 2, 3)
	l := writtenFacts()
	want, _ := defineFold(s, 3, l)
	rolled, _ := defineRoll(s, 3, 1, want)
	total, _ := defineTotal(want)
	for range 3 {
		checkFold(t, s, 3, l, want, api.OK)
		checkFold(t, s, 4, l, nil, api.ErrNone)
		checkFold(t, api.Schema{}, 3, l, nil, api.ErrArg)
		checkFoldDefined(t, made(1, 1, 2, 5), 3, l)
		checkFold(t, s, 3, append(slices.Clone(l), api.Fact{}), nil, api.ErrMany)
		checkRoll(t, s, 3, 1, want, rolled, api.OK)
		checkRoll(t, s, 1, 3, rolled, nil, api.ErrNone)
		checkRoll(t, s, 1, 0, want, nil, api.ErrArg)
		checkTotal(t, want, total, api.OK)
		checkTotal(t, rolled, total, api.OK)
		checkTotal(t, nil, api.Cell{}, api.ErrNone)
		checkMergeDefined(t, want, want)
		checkMerge(t, want, keyed(1), nil, api.ErrArg)
		checkRight(t, s, 3, want, true)
		checkRight(t, s, 1, want, false)
		checkFind(t, want, 3, 1, true)
		checkFind(t, want, 4, 2, false)
	}
}
