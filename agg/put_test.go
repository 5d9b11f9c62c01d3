package agg_test

import (
	"bytes"
	"math"
	"slices"
	"testing"

	"bushel/agg"
	"bushel/api"
)

// checkPut fails if Put does not return these bytes.
func checkPut(t *testing.T, c api.Cell, want []byte) {
	t.Helper()
	defer settle(t)
	if got := agg.Put(c); !bytes.Equal(got, want) {
		t.Errorf("Put(%s) is %d; want %d", textOf(c), got, want)
	}
}

// record is a cell, its schema, and its encoding written out.
type record struct {
	s    api.Schema
	c    api.Cell
	want []byte
}

// written holds valid cells and their encodings.
func written() []record {
	return []record{
		{made(0, 0, 1), api.Cell{Count: 1}, []byte{0, 10, 1}},
		{made(0, 0, 4096), api.Cell{Key: 300, Count: 300}, []byte{2, 1, 44, 11, 1, 44}},
		{
			made(1, 0, 2),
			api.Cell{Key: 1, Count: 2, Ints: []api.Whole{{Sum: -2, Abs: 8, Squares: []uint32{34}, Min: -5, Max: 3}}},
			[]byte{1, 1, 10, 2, 7, 254, 10, 8, 1, 1, 1, 34, 7, 251, 10, 3},
		},
		{
			made(1, 0, 2),
			api.Cell{Count: 1, Ints: []api.Whole{{}}},
			[]byte{0, 10, 1, 9, 9, 0, 9, 9},
		},
		{
			made(1, 0, 2),
			api.Cell{Count: 1, Ints: []api.Whole{{Squares: []uint32{0, math.MaxUint32, 256}}}},
			[]byte{0, 10, 1, 9, 9, 1, 3, 0, 4, 255, 255, 255, 255, 2, 1, 0, 9, 9},
		},
		{
			made(0, 1, 2),
			api.Cell{Count: 1, Nums: []api.Real{{Sum: []byte{8, 0, 0}, Min: minus0, Max: 0}}},
			[]byte{0, 10, 1, 1, 3, 8, 0, 0, 127, 255, 255, 255, 255, 255, 255, 255, 128, 0, 0, 0, 0, 0, 0, 0},
		},
		{
			made(0, 1, 2),
			api.Cell{Count: 1, Nums: []api.Real{{Sum: []byte{0, 0, 0}, Min: -infinity, Max: nan}}},
			[]byte{0, 10, 1, 1, 3, 0, 0, 0, 0, 15, 255, 255, 255, 255, 255, 255, 255, 255, 255, 255, 255, 255, 255, 255},
		},
		{
			made(2, 0, 2),
			api.Cell{Count: 1, Ints: []api.Whole{{Sum: 1, Abs: 2, Min: 3, Max: 4}, {Sum: -6, Abs: 6, Min: 7, Max: 8}}},
			[]byte{0, 10, 1, 10, 1, 10, 2, 0, 10, 3, 10, 4, 7, 250, 10, 6, 0, 10, 7, 10, 8},
		},
	}
}

// Promise 14.4: encodings written out.
func TestPutWritten(t *testing.T) {
	for _, r := range written() {
		checkPut(t, r.c, r.want)
	}
	checkPut(t, api.Cell{}, []byte{0, 9})
	checkPut(t, api.Cell{Ints: []api.Whole{}, Nums: []api.Real{}}, []byte{0, 9})
}

// Promise 14.4: the measures follow each other in their order, integers first.
func TestPutOrder(t *testing.T) {
	c := api.Cell{
		Count: 1,
		Ints:  []api.Whole{{Sum: 1}, {Sum: 2}},
		Nums:  []api.Real{{Sum: []byte{3}}, {Sum: []byte{4}}},
	}
	zeros := []byte{128, 0, 0, 0, 0, 0, 0, 0, 128, 0, 0, 0, 0, 0, 0, 0}
	checkPut(t, c, slices.Concat([]byte{0, 10, 1}, []byte{10, 1, 9, 0, 9, 9}, []byte{10, 2, 9, 0, 9, 9}, []byte{1, 1, 3}, zeros, []byte{1, 1, 4}, zeros))
}

// Promise 14.4: the least and the greatest numbers, in each place.
func TestPutEnds(t *testing.T) {
	low := []byte{0, 128, 0, 0, 0, 0, 0, 0, 0}
	high := []byte{17, 127, 255, 255, 255, 255, 255, 255, 255}
	w := api.Whole{Sum: least, Abs: least, Squares: []uint32{0}, Min: least, Max: least}
	checkPut(t, api.Cell{Key: 0, Count: least, Ints: []api.Whole{w}}, slices.Concat([]byte{0}, low, low, low, []byte{1, 1, 0}, low, low))
	w = api.Whole{Sum: most, Abs: most, Squares: []uint32{math.MaxUint32}, Min: most, Max: most}
	checkPut(t, api.Cell{Key: math.MaxUint64, Count: most, Ints: []api.Whole{w}}, slices.Concat(
		[]byte{8, 255, 255, 255, 255, 255, 255, 255, 255}, high, high, high, []byte{1, 1, 4, 255, 255, 255, 255}, high, high,
	))
	r := api.Real{Sum: longestSum(), Min: -infinity, Max: nan}
	checkPut(t, lone(r), slices.Concat(
		[]byte{0, 10, 1, 2, 1, 27}, longestSum(), []byte{0, 15, 255, 255, 255, 255, 255, 255}, slices.Repeat([]byte{255}, 8),
	))
}

// Promise 14.4: cells that are not valid have encodings, too.
func TestPutNotValid(t *testing.T) {
	m := mixer(15)
	for _, c := range notRight(&m) {
		checkPut(t, c, definePut(c))
	}
	checkPut(t, single(api.Whole{Squares: []uint32{1, 0, 0}}), []byte{0, 10, 1, 9, 9, 1, 3, 1, 1, 0, 0, 9, 9})
	long := api.Cell{Ints: make([]api.Whole, 300), Nums: make([]api.Real, 300)}
	long.Ints[200].Squares = make([]uint32, 300)
	long.Nums[200].Sum = make([]byte, 70000)
	checkPut(t, long, definePut(long))
}

// Promise 14.4: mixed cells of all schemas.
func TestPutMixed(t *testing.T) {
	m := mixer(16)
	for _, s := range samples() {
		for range 200 {
			c := m.cell(s, full(s))
			checkPut(t, c, definePut(c))
			m.spoil(&c)
			checkPut(t, c, definePut(c))
		}
	}
}
