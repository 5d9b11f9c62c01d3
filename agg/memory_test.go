package agg_test

import (
	"bytes"
	"math"
	"slices"
	"testing"

	"bushel/agg"
	"bushel/api"
	"bushel/schema"
)

// fill writes x over a list, and over what stands behind it in its memory.
func fill[E any](l []E, x E) {
	l = l[:cap(l)]
	for i := range l {
		l[i] = x
	}
}

// overwrite writes over all lists of a cell, and over what is behind them.
func overwrite(c api.Cell) {
	for _, w := range c.Ints {
		fill(w.Squares, 77)
	}
	for _, r := range c.Nums {
		fill(r.Sum, 77)
	}
	fill(c.Ints, api.Whole{Sum: 77})
	fill(c.Nums, api.Real{Max: 77})
}

// extend returns the same list, with x behind its end in its memory.
func extend[E any](l []E, x E) []E {
	return slices.Concat(l, []E{x, x})[:len(l)]
}

// behind returns the same cell with lists that have more elements behind their ends.
func behind(c api.Cell) api.Cell {
	c = clone(c)
	for i := range c.Ints {
		c.Ints[i].Squares = extend(c.Ints[i].Squares, 7)
	}
	for i := range c.Nums {
		c.Nums[i].Sum = extend(c.Nums[i].Sum, 8)
	}
	c.Ints, c.Nums = extend(c.Ints, api.Whole{Sum: 9}), extend(c.Nums, api.Real{Max: 10})
	return c
}

// unchanged reports whether a cell that behind has returned is still the same as c, to
// the last bit of each NaN, with what is behind its lists.
func unchanged(c, is api.Cell) bool {
	n, m := len(is.Ints), len(is.Nums)
	ok := defineSame(c, is) && is.Ints[:n+1][n].Sum == 9 && is.Nums[:m+1][m].Max == 10
	for _, w := range is.Ints {
		ok = ok && w.Squares[:len(w.Squares)+1][len(w.Squares)] == 7
	}
	for i, r := range is.Nums {
		ok = ok && r.Sum[:len(r.Sum)+1][len(r.Sum)] == 8 &&
			math.Float64bits(r.Min) == math.Float64bits(c.Nums[i].Min) && math.Float64bits(r.Max) == math.Float64bits(c.Nums[i].Max)
	}
	return ok
}

// cloneSchema returns the same schema in memory of its own.
func cloneSchema(s api.Schema) api.Schema {
	return api.Schema{Dims: slices.Clone(s.Dims), Ints: slices.Clone(s.Ints), Nums: slices.Clone(s.Nums), Views: slices.Clone(s.Views)}
}

// askAll calls all functions that take cells.
func askAll(s api.Schema, mask uint32, a, b api.Cell) {
	agg.Join(a, b)
	agg.Join(b, a)
	agg.Join(a, a)
	agg.Right(s, mask, a)
	agg.Same(a, b)
	agg.Put(a)
	for _, r := range a.Nums {
		agg.Value(r)
	}
}

// R4 for 14.1 to 14.4: no function changes its schema or its cells, or what is behind
// their lists.
func TestCellsStay(t *testing.T) {
	m := mixer(28)
	for range 3000 {
		s := of(&m, append(samples(), notValid()...))
		sample := of(&m, samples())
		a, b := m.cell(sample, 0), m.cell(sample, 0)
		for range m.below(2) {
			m.spoil(&a)
		}
		isA, isB, schemaBefore := behind(a), behind(b), cloneSchema(s)
		askAll(s, 0, isA, isB)
		askAll(sample, 0, isA, isB)
		if !unchanged(a, isA) || !unchanged(b, isB) {
			t.Fatalf("%s and %s became %s and %s", textOf(a), textOf(b), textOf(isA), textOf(isB))
		}
		if !schema.Same(s, schemaBefore) {
			t.Fatalf("%s became %s", text(schemaBefore), text(s))
		}
	}
}

// R4 for 14.1: One leaves its schema and its fact as they are, and keeps nothing of
// them.
func TestOneKeepsNothing(t *testing.T) {
	m := mixer(29)
	for _, s := range samples() {
		for _, mask := range []uint32{0, 1, full(s), full(s) + 1} {
			f := m.fact(s)
			given := api.Fact{Codes: extend(f.Codes, 7), Ints: extend(f.Ints, 8), Nums: extend(f.Nums, 9)}
			of := cloneSchema(s)
			want, wanted := defineOne(s, mask, f)
			got, errno := agg.One(of, mask, given)
			if !slices.Equal(given.Codes, f.Codes) || !slices.Equal(given.Ints, f.Ints) || !slices.EqualFunc(given.Nums, f.Nums, defineEqual) {
				t.Errorf("%v became %v", f, given)
			}
			if given.Codes[:len(f.Codes)+1][len(f.Codes)] != 7 || given.Ints[:len(f.Ints)+1][len(f.Ints)] != 8 || given.Nums[:len(f.Nums)+1][len(f.Nums)] != 9 {
				t.Error("what is behind a fact was changed")
			}
			if !schema.Same(of, s) {
				t.Errorf("%s became %s", text(s), text(of))
			}
			fill(given.Codes, -1)
			fill(given.Ints, least)
			fill(given.Nums, nan)
			checkCell(t, "One", got, errno, want, wanted)
			checkOne(t, of, 0, given, api.Cell{}, api.ErrRange)
			fill(of.Dims, api.Dim{})
			fill(of.Ints, "")
			checkCell(t, "One", got, errno, want, wanted)
			checkOne(t, of, mask, f, api.Cell{}, api.ErrArg)
			checkOne(t, s, mask, f, want, wanted)
		}
	}
}

// R4 for 14.2: Join keeps nothing of its cells, and its result is not of their memory,
// whatever the other cell is: one without words, for example.
func TestJoinKeepsNothing(t *testing.T) {
	m := mixer(30)
	for range 3000 {
		s := of(&m, samples())
		a, b := m.cell(s, 0), m.cell(s, 0)
		if m.below(2) == 0 {
			b = api.Cell{Ints: make([]api.Whole, len(s.Ints)), Nums: slices.Repeat([]api.Real{{Sum: sumOf()}}, len(s.Nums))}
		}
		givenA, givenB := clone(a), clone(b)
		want, wanted := defineJoin(a, b)
		got, errno := agg.Join(givenA, givenB)
		overwrite(givenA)
		overwrite(givenB)
		checkCell(t, "Join", got, errno, want, wanted)
		givenA, givenB = clone(a), clone(b)
		got, _ = agg.Join(givenA, givenB)
		again, errno := agg.Join(givenA, givenB)
		overwrite(got)
		checkCell(t, "Join", again, errno, want, wanted)
		if !defineSame(givenA, a) || !defineSame(givenB, b) {
			t.Fatalf("the combination of %s and %s shares memory with them", textOf(a), textOf(b))
		}
	}
}

// R4 for 14.2: a cell that is joined with itself stays as it is.
func TestJoinWithItself(t *testing.T) {
	a := plain()
	got, _ := agg.Join(a, a)
	checkSame(t, a, plain(), true)
	overwrite(got)
	checkSame(t, a, plain(), true)
	checkJoin(t, a, a, joined(t, plain(), plain()), api.OK)
}

// joined returns the combination of two cells as defined.
func joined(t *testing.T, a, b api.Cell) api.Cell {
	t.Helper()
	c, errno := defineJoin(a, b)
	if errno != api.OK {
		t.Fatalf("the definition has the error %d", errno)
	}
	return c
}

// checkApart fails if changing a list of a cell changes another one.
func checkApart(t *testing.T, call func() api.Cell) {
	t.Helper()
	defer settle(t)
	var changes []func(c api.Cell)
	before := clone(call())
	for i := range before.Ints {
		changes = append(changes, func(c api.Cell) { fill(c.Ints[i].Squares, 77) })
	}
	for i := range before.Nums {
		changes = append(changes, func(c api.Cell) { fill(c.Nums[i].Sum, 77) })
	}
	for _, change := range changes {
		c, want := call(), clone(before)
		change(c)
		change(want)
		if !defineSame(c, want) {
			t.Errorf("two lists of %s share memory", textOf(before))
		}
		if !defineSame(call(), before) {
			t.Errorf("two results share memory: %s", textOf(before))
		}
	}
	c := call()
	_ = append(c.Ints, api.Whole{Sum: 1})
	_ = append(c.Nums, api.Real{Max: 1})
	overwrite(c)
	if !defineSame(call(), before) {
		t.Errorf("two results share memory: %s", textOf(before))
	}
}

// R4 for 14.1, 14.2 and 14.4: what One, Join and Get return belongs to the caller, and
// no two lists of it share memory.
func TestResultsAreNew(t *testing.T) {
	m := mixer(31)
	for _, s := range samples() {
		for range 20 {
			f := m.fact(s)
			for i := range f.Ints {
				f.Ints[i] = 1<<40 + int64(i)
			}
			a, b := m.cell(s, 0), m.cell(s, 0)
			for i := range a.Ints {
				a.Ints[i], b.Ints[i] = api.Whole{Squares: []uint32{1, 2, 3}}, api.Whole{Squares: []uint32{4, 5}}
			}
			for i := range a.Nums {
				a.Nums[i].Sum, b.Nums[i].Sum = sumOf(1), sumOf(1e100)
			}
			a.Count, b.Count = 1, 1
			b.Key = a.Key
			encoding := definePut(a)
			checkApart(t, func() api.Cell { return cellOf(agg.One(s, 0, f)) })
			checkApart(t, func() api.Cell { return cellOf(agg.Join(a, b)) })
			checkApart(t, func() api.Cell { c, _, _ := agg.Get(s, 0, encoding); return c })
		}
	}
}

// cellOf returns the cell of a result.
func cellOf(c api.Cell, _ api.Errno) api.Cell {
	return c
}

// R4 for 14.4: what Put returns belongs to the caller, and is kept nowhere.
func TestPutIsNew(t *testing.T) {
	m := mixer(32)
	for _, s := range samples() {
		c := m.cell(s, 0)
		given := clone(c)
		first, second := agg.Put(given), agg.Put(given)
		_ = append(first, 77)
		fill(first, 99)
		if !bytes.Equal(second, definePut(c)) {
			t.Errorf("two encodings of %s share memory", textOf(c))
		}
		if !defineSame(given, c) {
			t.Errorf("the encoding of %s shares memory with it", textOf(c))
		}
		overwrite(given)
		if !bytes.Equal(second, definePut(c)) {
			t.Errorf("the encoding of %s shares memory with it", textOf(c))
		}
		checkPut(t, c, definePut(c))
	}
}

// R4 for 14.4: Get leaves its schema and its bytes as they are, with what is behind
// them, and keeps nothing of them.
func TestGetKeepsNothing(t *testing.T) {
	m := mixer(33)
	for _, s := range samples() {
		for range 10 {
			c := m.cell(s, 0)
			b := definePut(c)
			whole := append(slices.Clone(b), 0, 1, 2, 3)
			part, of := whole[:len(b)], cloneSchema(s)
			got, _, _ := agg.Get(of, 0, part)
			checkGetError(t, of, 0, part[:len(b)-1], api.ErrShort)
			if !bytes.Equal(whole, append(slices.Clone(b), 0, 1, 2, 3)) {
				t.Errorf("Get changed its bytes %d", b)
			}
			if !schema.Same(of, s) {
				t.Errorf("%s became %s", text(s), text(of))
			}
			fill(part, 255)
			fill(of.Dims, api.Dim{})
			if !defineSame(got, c) {
				t.Errorf("%s became %s", textOf(c), textOf(got))
			}
			checkGetError(t, s, 0, part, api.ErrForm)
			checkGetError(t, of, 0, b, api.ErrArg)
			checkGet(t, s, 0, b, c, len(b))
			overwrite(got)
			checkGet(t, s, 0, b, c, len(b))
		}
	}
}

// R5: the same arguments have the same results, whatever was asked in between.
func TestAskedAgain(t *testing.T) {
	s := made(1, 1, 2, 3)
	f := api.Fact{Codes: []int{1, 2}, Ints: []int64{-3}, Nums: []float64{nan}}
	one, _ := defineOne(s, 3, f)
	for range 3 {
		checkOneDefined(t, s, 3, f)
		checkOneDefined(t, s, 4, f)
		checkOneDefined(t, made(1, 1, 3, 2), 3, f)
		checkOneDefined(t, api.Schema{}, 3, f)
		checkOneDefined(t, made(1, 1, 2, 5), 3, f)
		checkJoin(t, one, one, joined(t, one, one), api.OK)
		checkJoin(t, one, api.Cell{}, api.Cell{}, api.ErrArg)
		checkRight(t, s, 3, one, true)
		checkRight(t, s, 1, one, false)
		checkRight(t, s, 3, one, true)
		checkSame(t, one, one, true)
		checkSame(t, one, api.Cell{}, false)
		checkPut(t, one, definePut(one))
		checkGet(t, s, 3, definePut(one), one, len(definePut(one)))
		checkGetError(t, s, 3, nil, api.ErrShort)
		checkValue(t, one.Nums[0], nan)
		checkValue(t, api.Real{}, 0)
	}
}
