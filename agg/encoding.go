package agg

import (
	"math"

	"bushel/api"
	"bushel/buf"
	"bushel/key"
	"bushel/schema"
)

// maxSum is how many bytes the longest encoding of a sum has.
const maxSum = 283

// Put returns the encoding of a cell, valid or not.
func Put(c api.Cell) []byte {
	out := buf.NewOut()
	out.U(c.Key)
	out.I(c.Count)
	for _, w := range c.Ints {
		putWhole(out, w)
	}
	for _, r := range c.Nums {
		out.B(r.Sum)
		out.F(r.Min)
		out.F(r.Max)
	}
	return out.Bytes()
}

// putWhole writes what a cell has of an integer measure.
func putWhole(out *buf.Out, w api.Whole) {
	out.I(w.Sum)
	out.I(w.Abs)
	out.U(uint64(len(w.Squares)))
	for _, word := range w.Squares {
		out.U(uint64(word))
	}
	out.I(w.Min)
	out.I(w.Max)
}

// Get returns the valid cell whose encoding is at the beginning of b, and the length of
// that encoding; or why there is none.
func Get(s api.Schema, mask uint32, b []byte) (api.Cell, int, api.Errno) {
	keys, ok := schema.Keys(s, mask)
	if !ok {
		// Layer 13 tells which of the two it is: every set has the key 0.
		_, errno := key.Codes(s, mask, 0)
		return api.Cell{}, 0, errno
	}
	in := buf.NewIn(b)
	c := read(s, in)
	if _, errno := in.Fault(); errno != api.OK {
		return api.Cell{}, 0, errno
	}
	if !valid(s, keys, c) {
		return api.Cell{}, 0, api.ErrForm
	}
	return c, len(b) - in.Left(), api.OK
}

// read reads a cell, valid or not. After a fault, which the reader keeps, what it
// returns means nothing.
func read(s api.Schema, in *buf.In) api.Cell {
	var c api.Cell
	c.Key = in.U(math.MaxUint64)
	c.Count = in.I()
	for range s.Ints {
		c.Ints = append(c.Ints, readWhole(in))
	}
	for range s.Nums {
		var r api.Real
		r.Sum = in.B(maxSum)
		r.Min = in.F()
		r.Max = in.F()
		c.Nums = append(c.Nums, r)
	}
	return c
}

// readWhole reads what a cell has of an integer measure.
func readWhole(in *buf.In) api.Whole {
	var w api.Whole
	w.Sum = in.I()
	w.Abs = in.I()
	for range in.U(maxSquares) {
		w.Squares = append(w.Squares, uint32(in.U(math.MaxUint32)))
	}
	w.Min = in.I()
	w.Max = in.I()
	return w
}
