package key_test

import (
	"slices"
	"testing"

	"bushel/api"
	"bushel/key"
	"bushel/schema"
)

// fill writes x over a list, and over what stands behind it in its memory.
func fill[E any](l []E, x E) {
	l = l[:cap(l)]
	for i := range l {
		l[i] = x
	}
}

// cloneSchema returns the same schema in memory of its own.
func cloneSchema(s api.Schema) api.Schema {
	return api.Schema{Dims: slices.Clone(s.Dims), Ints: slices.Clone(s.Ints), Nums: slices.Clone(s.Nums), Views: slices.Clone(s.Views)}
}

// askAll calls all functions.
func askAll(s api.Schema, mask uint32, codes []int, k uint64) {
	key.Of(s, mask, codes)
	key.Codes(s, mask, k)
	key.Code(s, mask, k, 0)
	key.Down(s, mask, mask&5, k)
}

// R4 for 13.1 to 13.3: no function changes its schema or its codes, or what is behind
// them.
func TestArgumentsStay(t *testing.T) {
	m := mixer(41)
	for _, s := range append(samples(), notValid()...) {
		for _, mask := range []uint32{0, 1, 2, 5, defineFull(s), 1 << 31} {
			for _, codes := range [][]int{nil, {1}, {1, 2, 3}, make([]int, len(s.Dims)), wild()[:min(len(s.Dims), 10)]} {
				whole := slices.Concat(codes, []int{-5, 6})
				before, schemaBefore := slices.Clone(whole), cloneSchema(s)
				askAll(s, mask, whole[:len(codes)], m.mixedKey(s, mask))
				if !slices.Equal(whole, before) {
					t.Fatalf("%d became %d", before, whole)
				}
				if !schema.Same(s, schemaBefore) {
					t.Fatalf("%s became %s", text(schemaBefore), text(s))
				}
			}
		}
	}
}

// R4 for 13.1 to 13.3: the caller may change the schema and the codes after each call,
// and what is asked next is of the changed ones.
func TestArgumentsAreNotKept(t *testing.T) {
	m := mixer(42)
	for _, s := range samples() {
		full := defineFull(s)
		codes := m.codes(s)
		given, of := slices.Clone(codes), cloneSchema(s)
		k := defineKey(s, full, codes)
		got, _ := key.Codes(of, full, k)
		checkOf(t, of, full, given, k, api.OK)
		fill(given, -1)
		checkOf(t, of, full, given, 0, api.ErrRange)
		checkOf(t, of, full, codes, k, api.OK)
		fill(of.Dims, api.Dim{})
		if !slices.Equal(got, codes) {
			t.Errorf("the codes %d became %d", codes, got)
		}
		checkOf(t, of, full, codes, 0, api.ErrArg)
		checkCodesError(t, of, full, k, api.ErrArg)
		checkDown(t, of, full, 0, k, 0, api.ErrArg)
		checkOf(t, s, full, codes, k, api.OK)
		checkCodes(t, s, full, k, codes)
	}
}

// R4 for 13.1 to 13.3: another Size is another key, if only the schema has changed.
func TestSchemaIsNotKept(t *testing.T) {
	s := example()
	checkOf(t, s, 7, []int{1, 2, 3}, 23, api.OK)
	checkCodes(t, s, 7, 23, []int{1, 2, 3})
	checkDown(t, s, 7, 5, 23, 7, api.OK)
	s.Dims[2].Size = 10
	checkOf(t, s, 7, []int{1, 2, 3}, 53, api.OK)
	checkCodes(t, s, 7, 23, []int{0, 2, 3})
	checkDown(t, s, 7, 5, 53, 13, api.OK)
	s.Dims = s.Dims[:2]
	checkOf(t, s, 7, []int{1, 2, 3}, 0, api.ErrNone)
	checkOf(t, s, 3, []int{1, 2}, 5, api.OK)
}

// R4 for 13.2: what Codes returns belongs to the caller, and changing it changes
// nothing else.
func TestCodesAreNew(t *testing.T) {
	m := mixer(43)
	for _, s := range samples() {
		for _, mask := range sets(s) {
			k := of(&m, m.keysOf(s, mask))
			want, _ := defineCodes(s, mask, k)
			before := cloneSchema(s)
			first, _ := key.Codes(s, mask, k)
			second, _ := key.Codes(s, mask, k)
			_ = append(first, 77)
			fill(first, 99)
			if !slices.Equal(second, want) {
				t.Fatalf("two results of Codes(%s, %b, %d) share memory", text(s), mask, k)
			}
			if !schema.Same(s, before) {
				t.Fatalf("the codes of %s share memory with it", text(before))
			}
			checkCodes(t, s, mask, k, want)
		}
	}
}

// R5: the same arguments have the same results, whatever was asked in between.
func TestAskedAgain(t *testing.T) {
	s := example()
	for range 3 {
		checkOf(t, s, 7, []int{1, 2, 3}, 23, api.OK)
		checkOf(t, s, 5, []int{1, 2, 3}, 7, api.OK)
		checkOf(t, s, 7, []int{2, 2, 3}, 0, api.ErrRange)
		checkOf(t, api.Schema{}, 7, []int{1, 2, 3}, 0, api.ErrArg)
		checkOf(t, made(0, 0, 3, 4, 2), 7, []int{1, 2, 1}, 13, api.OK)
		checkCodes(t, s, 7, 23, []int{1, 2, 3})
		checkCodes(t, made(0, 0, 4, 3, 2), 7, 23, []int{3, 2, 1})
		checkCodesError(t, s, 7, 24, api.ErrRange)
		checkCode(t, s, 5, 7, 1, -1)
		checkCode(t, s, 5, 7, 2, 3)
		checkDown(t, s, 7, 5, 23, 7, api.OK)
		checkDown(t, s, 5, 7, 7, 0, api.ErrNone)
	}
}
