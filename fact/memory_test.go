package fact_test

import (
	"bytes"
	"math"
	"slices"
	"testing"

	"bushel/api"
	"bushel/fact"
	"bushel/schema"
)

// fill writes x over a list, and over what stands behind it in its memory.
func fill[E any](l []E, x E) {
	l = l[:cap(l)]
	for i := range l {
		l[i] = x
	}
}

// overwrite writes over all lists of a fact, and over what is behind them.
func overwrite(f api.Fact) {
	fill(f.Codes, -77)
	fill(f.Ints, 77)
	fill(f.Nums, 77)
}

// cloneSchema returns the same schema in memory of its own.
func cloneSchema(s api.Schema) api.Schema {
	return api.Schema{Dims: slices.Clone(s.Dims), Ints: slices.Clone(s.Ints), Nums: slices.Clone(s.Nums), Views: slices.Clone(s.Views)}
}

// behind returns the same fact with lists that have more elements behind their ends,
// and these longer lists.
func behind(f api.Fact) (part, whole api.Fact) {
	whole = api.Fact{
		Codes: slices.Concat(f.Codes, []int{-5, 6}),
		Ints:  slices.Concat(f.Ints, []int64{7, 8}),
		Nums:  slices.Concat(f.Nums, []float64{9, 10}),
	}
	return api.Fact{Codes: whole.Codes[:len(f.Codes)], Ints: whole.Ints[:len(f.Ints)], Nums: whole.Nums[:len(f.Nums)]}, whole
}

// askAll calls every function that takes facts.
func askAll(s api.Schema, l []api.Fact) {
	fact.Batch(s, l)
	fact.Put(s, l)
	for _, f := range l {
		fact.Check(s, f)
		fact.Same(f, l[0])
	}
}

// batches passes on batches, and lists that are none.
func batches(use func(api.Schema, []api.Fact)) {
	m := mixer(24)
	for _, s := range samples() {
		for _, n := range []int{1, 2, 200} {
			use(s, m.batch(s, n))
		}
	}
	for range 300 {
		s := of(&m, append(samples(), notValid()...))
		use(s, m.mixedBatch(s))
	}
}

// R4 for 12.1 to 12.3: no function changes its schema or its facts, or what is behind
// their lists.
func TestArgumentsStay(t *testing.T) {
	batches(func(s api.Schema, l []api.Fact) {
		var parts, wholes []api.Fact
		for _, f := range l {
			part, whole := behind(f)
			parts, wholes = append(parts, part), append(wholes, whole)
		}
		before, schemaBefore := cloneAll(wholes), cloneSchema(s)
		askAll(s, parts)
		for i := range l {
			if !bits(wholes[i], before[i]) || !bits(parts[i], l[i]) {
				t.Fatalf("%s became %s", textOf(before[i]), textOf(wholes[i]))
			}
		}
		if !schema.Same(s, schemaBefore) {
			t.Fatalf("%s became %s", text(schemaBefore), text(s))
		}
	})
}

// R4 for 12.1 to 12.3: the caller may change the schema and the facts after each call,
// and what is asked next is of the changed ones.
func TestArgumentsAreNotKept(t *testing.T) {
	m := mixer(25)
	for _, s := range samples() {
		for _, n := range []int{1, 3, 200} {
			l := m.batch(s, n)
			given, of := cloneAll(l), cloneSchema(s)
			b, _ := fact.Put(of, given)
			askAll(of, given)
			for _, f := range given {
				overwrite(f)
			}
			checkBatch(t, s, given, 0, api.ErrRange)
			checkSame(t, given[0], l[0], false)
			fill(given, api.Fact{})
			checkBatch(t, s, given, 0, api.ErrMany)
			fill(of.Dims, api.Dim{})
			checkBatch(t, of, l, 0, api.ErrArg)
			if !bytes.Equal(b, definePut(l)) {
				t.Errorf("the encoding of %s became %d", textOf(l...), brief(b))
			}
			checkPut(t, s, l, definePut(l))
		}
	}
}

// R4 for 12.3: what Put returns belongs to the caller.
func TestPutIsNew(t *testing.T) {
	m := mixer(26)
	for _, s := range samples() {
		l := m.batch(s, 3)
		first, _ := fact.Put(s, l)
		second, _ := fact.Put(s, l)
		_ = append(first, 77)
		fill(first, 99)
		if !bytes.Equal(second, definePut(l)) {
			t.Errorf("two encodings of %s share memory", textOf(l...))
		}
		checkPut(t, s, l, definePut(l))
	}
}

// R4 for 12.3: Get leaves its schema and its bytes as they are, with what is behind
// them, and keeps nothing of them.
func TestGetKeepsNothing(t *testing.T) {
	m := mixer(27)
	for _, s := range samples() {
		l := m.batch(s, 4)
		b := definePut(l)
		whole := append(slices.Clone(b), 0, 1, 2, 3)
		part, of := whole[:len(b)], cloneSchema(s)
		got, _ := fact.Get(of, part)
		checkGetError(t, of, part[:len(b)-1], api.ErrShort)
		if !bytes.Equal(whole, append(slices.Clone(b), 0, 1, 2, 3)) {
			t.Errorf("Get changed its bytes %d", b)
		}
		if !schema.Same(of, s) {
			t.Errorf("%s became %s", text(s), text(of))
		}
		fill(part, 255)
		fill(of.Dims, api.Dim{})
		if !equalFacts(got, l) {
			t.Errorf("%s became %s", textOf(l...), textOf(got...))
		}
		checkGetError(t, s, part, api.ErrForm)
		checkGetError(t, of, b, api.ErrArg)
	}
}

// R4 for 12.3: the facts that Get returns belong to the caller, and no two of their
// lists share memory.
func TestGetIsNew(t *testing.T) {
	m := mixer(28)
	for _, s := range samples() {
		l := m.batch(s, 5)
		b := definePut(l)
		for i := range l {
			first, _ := fact.Get(s, b)
			second, _ := fact.Get(s, b)
			for _, change := range []func(){
				func() { fill(first[i].Codes, -77) },
				func() { fill(first[i].Ints, 77) },
				func() { fill(first[i].Nums, 77) },
			} {
				others := cloneAll(first)
				others[i] = api.Fact{}
				change()
				for j := range first {
					if j != i && !bits(first[j], others[j]) {
						t.Fatalf("facts %d and %d of %s share memory", i, j, textOf(l...))
					}
				}
			}
			fill(first, api.Fact{})
			if !equalFacts(second, l) {
				t.Fatalf("two results of %d share memory", b)
			}
			checkGet(t, s, b, l)
		}
	}
}

// R4 for 12.3: the lists of one fact that Get returns share no memory.
func TestGetListsAreNew(t *testing.T) {
	s := greatest()
	m := mixer(29)
	l := m.batch(s, 1)
	got, _ := fact.Get(s, definePut(l))
	fill(got[0].Codes, -1)
	if !slices.Equal(got[0].Ints, l[0].Ints) {
		t.Error("Codes and Ints share memory")
	}
	_ = append(got[0].Ints, 7)
	fill(got[0].Ints, -1)
	got[0].Codes, got[0].Ints = l[0].Codes, l[0].Ints
	checkSame(t, got[0], l[0], true)
}

// R5: the same arguments have the same results, whatever was asked in between.
func TestAskedAgain(t *testing.T) {
	s := made(1, 1, 2, 3)
	f := api.Fact{Codes: []int{1, 2}, Ints: []int64{-3}, Nums: []float64{math.NaN()}}
	for range 3 {
		checkError(t, s, f, api.OK)
		checkError(t, s, api.Fact{}, api.ErrMany)
		checkError(t, api.Schema{}, f, api.ErrArg)
		checkError(t, made(1, 1, 2, 2), f, api.ErrRange)
		checkBatch(t, s, []api.Fact{f, {}}, 1, api.ErrMany)
		checkBatch(t, s, nil, 0, api.ErrMany)
		checkSame(t, f, f, true)
		checkSame(t, f, api.Fact{}, false)
		checkPut(t, s, []api.Fact{f, f}, definePut([]api.Fact{f, f}))
		checkGet(t, s, definePut([]api.Fact{f}), []api.Fact{f})
		checkGetError(t, s, definePut([]api.Fact{f})[1:], api.ErrRange)
		checkGetError(t, s, []byte{0}, api.ErrMany)
	}
}
