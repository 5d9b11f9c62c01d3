package schema_test

import (
	"bytes"
	"slices"
	"testing"

	"bushel/api"
	"bushel/schema"
)

// fill writes x over a list, and over what stands behind it in its memory.
func fill[E any](l []E, x E) {
	l = l[:cap(l)]
	for i := range l {
		l[i] = x
	}
}

// overwrite writes over all lists of a schema, and over what is behind them.
func overwrite(s api.Schema) {
	fill(s.Dims, api.Dim{Name: "spoilt", Size: -7})
	fill(s.Ints, "spoilt")
	fill(s.Nums, "spoilt")
	fill(s.Views, 1<<31)
}

// behind returns the schema with lists that have more elements behind their ends, and
// these longer lists.
func behind(s api.Schema) (part, whole api.Schema) {
	whole = api.Schema{
		Dims:  slices.Concat(s.Dims, dims(5, 6)),
		Ints:  slices.Concat(s.Ints, named("x", 2)),
		Nums:  slices.Concat(s.Nums, named("y", 2)),
		Views: slices.Concat(s.Views, []uint32{0, 9}),
	}
	part = api.Schema{Dims: whole.Dims[:len(s.Dims)], Ints: whole.Ints[:len(s.Ints)], Nums: whole.Nums[:len(s.Nums)], Views: whole.Views[:len(s.Views)]}
	return part, whole
}

// askAll calls every function that takes a schema.
func askAll(s api.Schema) {
	schema.Check(s)
	schema.Full(s)
	schema.Views(s)
	schema.Keys(s, 3)
	schema.Find(s, "d0")
	schema.Find(s, "")
	schema.Same(s, s)
	schema.Put(s)
}

// R4 for 11.1 to 11.3: no function changes its schema, or what is behind its lists.
func TestArgumentsStay(t *testing.T) {
	check := func(s api.Schema, _ api.Errno) {
		part, whole := behind(s)
		before := clone(whole)
		askAll(part)
		checkSchema(t, whole, before, "after all functions")
		checkSchema(t, part, s, "after all functions")
	}
	for _, s := range samples() {
		check(s, api.OK)
	}
	several(check)
}

// R4 for 11.1 and 11.2: the caller may change a schema after each call, and what is
// asked next is of the changed one.
func TestArgumentsAreNotKept(t *testing.T) {
	for _, s := range samples() {
		part, _ := behind(s)
		views := schema.Views(part)
		encoding, _ := schema.Put(part)
		askAll(part)
		overwrite(part)
		if want := slices.Concat([]uint32{1<<len(s.Dims) - 1}, s.Views); !slices.Equal(views, want) {
			t.Errorf("the views of %s became %d", text(s), views)
		}
		if !bytes.Equal(encoding, definePut(s)) {
			t.Errorf("the encoding of %s became %d", text(s), encoding)
		}
		checkError(t, part, defineCheck(part))
		checkFind(t, part, s.Dims[0].Name, 0, 0)
		checkSame(t, part, s, false)
		checkError(t, s, api.OK)
	}
}

// R4 for 11.1: what Views returns belongs to the caller.
func TestViewsAreNew(t *testing.T) {
	for _, s := range samples() {
		part, whole := behind(s)
		before := clone(whole)
		first, second := schema.Views(part), schema.Views(part)
		want := slices.Clone(second)
		_ = append(first, 77)
		fill(first, 99)
		if !slices.Equal(second, want) {
			t.Errorf("two lists of the views of %s share memory", text(s))
		}
		checkSchema(t, whole, before, "after a change of the views")
		checkViews(t, part, want...)
	}
}

// R4 for 11.3: what Put returns belongs to the caller.
func TestPutIsNew(t *testing.T) {
	for _, s := range samples() {
		first, _ := schema.Put(s)
		second, _ := schema.Put(s)
		_ = append(first, 77)
		fill(first, 99)
		if !bytes.Equal(second, definePut(s)) {
			t.Errorf("two encodings of %s share memory", text(s))
		}
		checkPut(t, s, definePut(s))
	}
}

// R4 for 11.3: Get leaves its bytes as they are, and what is behind them, and keeps
// none of them.
func TestGetKeepsNoBytes(t *testing.T) {
	for _, s := range samples() {
		b := definePut(s)
		whole := append(slices.Clone(b), 0, 1, 2, 3)
		part := whole[:len(b)]
		got, _ := schema.Get(part)
		checkGetError(t, part[:len(b)-1], api.ErrShort)
		if !bytes.Equal(whole, append(slices.Clone(b), 0, 1, 2, 3)) {
			t.Errorf("Get changed its bytes %d", b)
		}
		fill(part, 255)
		checkSchema(t, got, s, "after a change of the bytes")
		checkGetError(t, part, api.ErrForm)
	}
}

// R4 for 11.3: the schema that Get returns belongs to the caller, and no two of its
// lists share memory.
func TestGetIsNew(t *testing.T) {
	for _, s := range append(samples(), api.Schema{Dims: dims(2), Ints: named("i", 1), Nums: named("n", 1)}) {
		b := definePut(s)
		first, _ := schema.Get(b)
		second, _ := schema.Get(b)
		fill(first.Ints, "spoilt")
		if !slices.Equal(first.Nums, s.Nums) {
			t.Errorf("Ints and Nums of %s share memory", text(s))
		}
		overwrite(first)
		checkSchema(t, second, s, "after a change of another result")
		checkGet(t, b, s)
	}
}

// R4 for 11.3: the zero schema of an error belongs to the caller, too.
func TestGetOfErrorIsNew(t *testing.T) {
	s, _ := schema.Get([]byte{9})
	s.Dims = append(s.Dims, dims(1)...)
	s.Views = append(s.Views, 1)
	checkGetError(t, []byte{9}, api.ErrForm)
	checkGetError(t, nil, api.ErrShort)
}

// R5: the same arguments have the same results, whatever was asked in between.
func TestAskedAgain(t *testing.T) {
	for range 3 {
		checkError(t, example(), api.OK)
		checkError(t, api.Schema{}, api.ErrMany)
		checkError(t, api.Schema{Dims: dims(2, 2), Ints: []string{"d1"}}, api.ErrTwice)
		checkFind(t, example(), "b", 1, 1)
		checkFind(t, greatest(), "b", 0, 0)
		checkViews(t, example(), 3, 1)
		checkKeys(t, example(), 3, 6)
		checkSame(t, example(), greatest(), false)
		checkGet(t, definePut(example()), example())
		checkGetError(t, definePut(example())[1:], api.ErrRange)
		checkPut(t, greatest(), definePut(greatest()))
	}
}
