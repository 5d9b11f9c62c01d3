package agg_test

import (
	"bytes"
	"math"
	"math/big"
	"slices"

	"bushel/api"
	"bushel/code"
	"bushel/exact"
	"bushel/fact"
	"bushel/schema"
)

// The definitions below follow the chapter word by word, with the library's big
// numbers.

// defineKeys returns the number of keys of a set of a valid schema.
func defineKeys(s api.Schema, mask uint32) uint64 {
	n := uint64(1)
	for i, d := range s.Dims {
		if mask&(1<<i) != 0 {
			n *= uint64(d.Size)
		}
	}
	return n
}

// defineKey returns the key of codes.
func defineKey(s api.Schema, mask uint32, codes []int) uint64 {
	k := uint64(0)
	for i, d := range s.Dims {
		if mask&(1<<i) != 0 {
			k = k*uint64(d.Size) + uint64(codes[i])
		}
	}
	return k
}

// defineBefore reports whether a precedes b in the order of layer 3.
func defineBefore(a, b float64) bool {
	switch {
	case math.IsNaN(a):
		return false
	case math.IsNaN(b):
		return true
	case a == 0 && b == 0:
		return math.Signbit(a) && !math.Signbit(b)
	}
	return a < b
}

// defineEqual reports whether a and b are equal in the order of layer 3.
func defineEqual(a, b float64) bool {
	return !defineBefore(a, b) && !defineBefore(b, a)
}

// defineNumber returns the number that words represent.
func defineNumber(words []uint32) *big.Int {
	x := new(big.Int)
	for i := range words {
		x.Lsh(x, 32)
		x.Add(x, big.NewInt(int64(words[len(words)-1-i])))
	}
	return x
}

// defineWords returns the normalized words of a number.
func defineWords(x *big.Int) []uint32 {
	var words []uint32
	for x.Sign() > 0 {
		words = append(words, uint32(new(big.Int).And(x, big.NewInt(math.MaxUint32)).Uint64()))
		x = new(big.Int).Rsh(x, 32)
	}
	return words
}

// defineOne returns what One must.
func defineOne(s api.Schema, mask uint32, f api.Fact) (api.Cell, api.Errno) {
	if errno := fact.Check(s, f); errno != api.OK {
		return api.Cell{}, errno
	}
	if mask>>len(s.Dims) != 0 {
		return api.Cell{}, api.ErrNone
	}
	if slices.Contains(f.Ints, least) {
		return api.Cell{}, api.ErrOver
	}
	c := api.Cell{Key: defineKey(s, mask, f.Codes), Count: 1}
	for _, x := range f.Ints {
		size := new(big.Int).Abs(big.NewInt(x))
		square := new(big.Int).Mul(size, size)
		c.Ints = append(c.Ints, api.Whole{Sum: x, Abs: size.Int64(), Squares: defineWords(square), Min: x, Max: x})
	}
	for _, x := range f.Nums {
		c.Nums = append(c.Nums, api.Real{Sum: sumOf(x), Min: x, Max: x})
	}
	return c, api.OK
}

// defineAdd returns the sum of two integers, and whether it fits into an int64.
func defineAdd(a, b int64) (int64, bool) {
	sum := new(big.Int).Add(big.NewInt(a), big.NewInt(b))
	return sum.Int64(), sum.IsInt64()
}

// defineJoin returns what Join must.
func defineJoin(a, b api.Cell) (api.Cell, api.Errno) {
	if a.Key != b.Key || len(a.Ints) != len(b.Ints) || len(a.Nums) != len(b.Nums) {
		return api.Cell{}, api.ErrArg
	}
	c := api.Cell{Key: a.Key}
	var ok bool
	if c.Count, ok = defineAdd(a.Count, b.Count); !ok {
		return api.Cell{}, api.ErrOver
	}
	for i := range a.Ints {
		x, y := a.Ints[i], b.Ints[i]
		w := api.Whole{Min: x.Min, Max: x.Max}
		if w.Sum, ok = defineAdd(x.Sum, y.Sum); !ok {
			return api.Cell{}, api.ErrOver
		}
		if w.Abs, ok = defineAdd(x.Abs, y.Abs); !ok {
			return api.Cell{}, api.ErrOver
		}
		w.Squares = defineWords(new(big.Int).Add(defineNumber(x.Squares), defineNumber(y.Squares)))
		if y.Min < w.Min {
			w.Min = y.Min
		}
		if y.Max > w.Max {
			w.Max = y.Max
		}
		c.Ints = append(c.Ints, w)
	}
	for i := range a.Nums {
		r, errno := defineJoinReal(a.Nums[i], b.Nums[i])
		if errno != api.OK {
			return api.Cell{}, errno
		}
		c.Nums = append(c.Nums, r)
	}
	return c, api.OK
}

// defineJoinReal returns what Join must for an element of Nums.
func defineJoinReal(x, y api.Real) (api.Real, api.Errno) {
	sum, errno := exact.Read(x.Sum)
	if errno != api.OK {
		return api.Real{}, api.ErrRot
	}
	other, errno := exact.Read(y.Sum)
	if errno != api.OK {
		return api.Real{}, api.ErrRot
	}
	if !sum.Join(other) {
		return api.Real{}, api.ErrOver
	}
	r := api.Real{Sum: sum.Bytes(), Min: x.Min, Max: x.Max}
	if defineBefore(y.Min, x.Min) {
		r.Min = y.Min
	}
	if defineBefore(x.Max, y.Max) {
		r.Max = y.Max
	}
	return r, api.OK
}

// defineRight returns what Right must.
func defineRight(s api.Schema, mask uint32, c api.Cell) bool {
	if schema.Check(s) != api.OK || mask>>len(s.Dims) != 0 {
		return false
	}
	if c.Key >= defineKeys(s, mask) || c.Count < 1 || len(c.Ints) != len(s.Ints) || len(c.Nums) != len(s.Nums) {
		return false
	}
	for _, w := range c.Ints {
		sum, abs := big.NewInt(w.Sum), big.NewInt(w.Abs)
		if abs.Sign() < 0 || sum.CmpAbs(abs) > 0 || w.Min > w.Max {
			return false
		}
		if len(w.Squares) > 7 || len(w.Squares) > 0 && w.Squares[len(w.Squares)-1] == 0 {
			return false
		}
	}
	for _, r := range c.Nums {
		if _, errno := exact.Read(r.Sum); errno != api.OK || defineBefore(r.Max, r.Min) {
			return false
		}
	}
	return true
}

// defineSame returns what Same must.
func defineSame(a, b api.Cell) bool {
	if a.Key != b.Key || a.Count != b.Count || len(a.Ints) != len(b.Ints) || len(a.Nums) != len(b.Nums) {
		return false
	}
	for i, x := range a.Ints {
		y := b.Ints[i]
		if x.Sum != y.Sum || x.Abs != y.Abs || x.Min != y.Min || x.Max != y.Max || !slices.Equal(x.Squares, y.Squares) {
			return false
		}
	}
	for i, x := range a.Nums {
		y := b.Nums[i]
		if !bytes.Equal(x.Sum, y.Sum) || !defineEqual(x.Min, y.Min) || !defineEqual(x.Max, y.Max) {
			return false
		}
	}
	return true
}

// definePut returns the encoding of a cell.
func definePut(c api.Cell) []byte {
	b := slices.Concat(code.U(c.Key), code.I(c.Count))
	for _, w := range c.Ints {
		b = slices.Concat(b, code.I(w.Sum), code.I(w.Abs), code.U(uint64(len(w.Squares))))
		for _, word := range w.Squares {
			b = append(b, code.U(uint64(word))...)
		}
		b = slices.Concat(b, code.I(w.Min), code.I(w.Max))
	}
	for _, r := range c.Nums {
		b = slices.Concat(b, code.U(uint64(len(r.Sum))), r.Sum, code.F(r.Min), code.F(r.Max))
	}
	return b
}

// rest is what is left of an encoding, and the first error.
type rest struct {
	b     []byte
	errno api.Errno
}

// take takes a value away, or keeps the first error and returns zero.
func take[V any](r *rest, get func([]byte) (V, int, api.Errno)) V {
	var none V
	if r.errno != api.OK {
		return none
	}
	x, n, errno := get(r.b)
	if errno != api.OK {
		r.errno = errno
		return none
	}
	r.b = r.b[n:]
	return x
}

// number takes a number away that must not be above most.
func (r *rest) number(most uint64, above api.Errno) uint64 {
	x := take(r, code.GetU)
	if r.errno == api.OK && x > most {
		r.errno = above
	}
	if r.errno != api.OK {
		return 0
	}
	return x
}

// sum takes a byte string away.
func (r *rest) sum() []byte {
	n := r.number(283, api.ErrLong)
	if r.errno == api.OK && uint64(len(r.b)) < n {
		r.errno = api.ErrShort
	}
	if r.errno != api.OK {
		return nil
	}
	b := r.b[:n]
	r.b = r.b[n:]
	return b
}

// cell takes a cell away, valid or not.
func (r *rest) cell(s api.Schema) api.Cell {
	c := api.Cell{Key: r.number(math.MaxUint64, api.OK)}
	c.Count = take(r, code.GetI)
	for range s.Ints {
		w := api.Whole{Sum: take(r, code.GetI)}
		w.Abs = take(r, code.GetI)
		for n := r.number(7, api.ErrRange); n > 0; n-- {
			w.Squares = append(w.Squares, uint32(r.number(math.MaxUint32, api.ErrRange)))
		}
		w.Min = take(r, code.GetI)
		w.Max = take(r, code.GetI)
		c.Ints = append(c.Ints, w)
	}
	for range s.Nums {
		x := api.Real{Sum: r.sum()}
		x.Min = take(r, code.GetF)
		x.Max = take(r, code.GetF)
		c.Nums = append(c.Nums, x)
	}
	return c
}

// defineGet returns what Get must.
func defineGet(s api.Schema, mask uint32, b []byte) (api.Cell, int, api.Errno) {
	if schema.Check(s) != api.OK {
		return api.Cell{}, 0, api.ErrArg
	}
	if mask>>len(s.Dims) != 0 {
		return api.Cell{}, 0, api.ErrNone
	}
	r := &rest{b: b}
	c := r.cell(s)
	if r.errno != api.OK {
		return api.Cell{}, 0, r.errno
	}
	if !defineRight(s, mask, c) {
		return api.Cell{}, 0, api.ErrForm
	}
	return c, len(b) - len(r.b), api.OK
}
