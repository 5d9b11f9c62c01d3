package agg

import (
	"bytes"
	"slices"

	"bushel/api"
	"bushel/exact"
	"bushel/flo"
	"bushel/nat"
	"bushel/schema"
)

// maxSquares is how many words the Squares of a valid cell have at most.
const maxSquares = 7

// Right reports whether a cell is valid for a set of dimensions.
func Right(s api.Schema, mask uint32, c api.Cell) bool {
	keys, ok := schema.Keys(s, mask)
	return ok && valid(s, keys, c)
}

// valid reports whether a cell is valid for a set of a valid schema that has so many
// keys.
func valid(s api.Schema, keys uint64, c api.Cell) bool {
	return c.Key < keys &&
		c.Count >= 1 &&
		len(c.Ints) == len(s.Ints) &&
		len(c.Nums) == len(s.Nums) &&
		!slices.ContainsFunc(c.Ints, func(w api.Whole) bool { return !validWhole(w) }) &&
		!slices.ContainsFunc(c.Nums, func(r api.Real) bool { return !validReal(r) })
}

// validWhole reports whether a valid cell may have this of an integer measure.
func validWhole(w api.Whole) bool {
	return w.Abs >= 0 &&
		// Where Abs is not negative, -Abs does not overflow.
		-w.Abs <= w.Sum && w.Sum <= w.Abs &&
		w.Min <= w.Max &&
		len(w.Squares) <= maxSquares &&
		len(w.Squares) == len(nat.Trim(w.Squares))
}

// validReal reports whether a valid cell may have this of a float measure.
func validReal(r api.Real) bool {
	_, errno := exact.Read(r.Sum)
	return errno == api.OK && !flo.Less(r.Max, r.Min)
}

// Same reports whether two cells are equal in all numbers.
func Same(a, b api.Cell) bool {
	sameWhole := func(x, y api.Whole) bool {
		return x.Sum == y.Sum &&
			x.Abs == y.Abs &&
			// Not by layer 2, for which trailing zero words make no difference.
			slices.Equal(x.Squares, y.Squares) &&
			x.Min == y.Min &&
			x.Max == y.Max
	}
	sameReal := func(x, y api.Real) bool {
		return bytes.Equal(x.Sum, y.Sum) && flo.Same(x.Min, y.Min) && flo.Same(x.Max, y.Max)
	}
	return a.Key == b.Key &&
		a.Count == b.Count &&
		slices.EqualFunc(a.Ints, b.Ints, sameWhole) &&
		slices.EqualFunc(a.Nums, b.Nums, sameReal)
}
