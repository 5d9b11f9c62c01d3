package cells_test

import (
	"slices"

	"bushel/agg"
	"bushel/api"
	"bushel/schema"
)

// The definitions below follow the chapter word by word, with what layer 14 has for
// single cells. They look for each Key from the beginning, and use no map.

// defineKeys returns the number of keys of a set of a valid schema.
func defineKeys(s api.Schema, mask uint32) uint64 {
	n := uint64(1)
	for i, d := range s.Dims {
		if mask&(1<<i) != 0 {
			n *= uint64(d.Size)
		}
	}
	return n
}

// defineDown returns the key of the set to that has the codes of a key of the set from.
func defineDown(s api.Schema, from, to uint32, key uint64) uint64 {
	down, weight := uint64(0), uint64(1)
	for i := range s.Dims {
		i = len(s.Dims) - 1 - i
		size := uint64(s.Dims[i].Size)
		if from&(1<<i) == 0 {
			continue
		}
		if to&(1<<i) != 0 {
			down += key % size * weight
			weight *= size
		}
		key /= size
	}
	return down
}

// defineIncreasing reports whether the Keys are strictly increasing.
func defineIncreasing(l []api.Cell) bool {
	for i := range l {
		for j := range i {
			if l[j].Key >= l[i].Key {
				return false
			}
		}
	}
	return true
}

// defineRight returns what Right must.
func defineRight(s api.Schema, mask uint32, l []api.Cell) bool {
	if schema.Check(s) != api.OK || mask>>len(s.Dims) != 0 {
		return false
	}
	for _, c := range l {
		if !agg.Right(s, mask, c) {
			return false
		}
	}
	return defineIncreasing(l)
}

// defineSame returns what Same must.
func defineSame(a, b []api.Cell) bool {
	if len(a) != len(b) {
		return false
	}
	for i := range a {
		if !agg.Same(a[i], b[i]) {
			return false
		}
	}
	return true
}

// defineFind returns what Find must.
func defineFind(l []api.Cell, key uint64) (int, bool) {
	smaller := 0
	for i, c := range l {
		if c.Key == key {
			return i, true
		}
		if c.Key < key {
			smaller++
		}
	}
	return smaller, false
}

// defineAdd combines a cell with the one of the list that has the same Key, or appends
// it.
func defineAdd(l []api.Cell, c api.Cell) ([]api.Cell, api.Errno) {
	for i := range l {
		if l[i].Key == c.Key {
			joined, errno := agg.Join(l[i], c)
			if errno != api.OK {
				return nil, errno
			}
			l[i] = joined
			return l, api.OK
		}
	}
	return append(l, clone(c)), api.OK
}

// defineOrder returns the cells in increasing order of the Keys.
func defineOrder(l []api.Cell) []api.Cell {
	for i := range l {
		for j := i; j > 0 && l[j].Key < l[j-1].Key; j-- {
			l[j], l[j-1] = l[j-1], l[j]
		}
	}
	return l
}

// defineFold returns what Fold must.
func defineFold(s api.Schema, mask uint32, l []api.Fact) ([]api.Cell, api.Errno) {
	if schema.Check(s) != api.OK {
		return nil, api.ErrArg
	}
	if mask>>len(s.Dims) != 0 {
		return nil, api.ErrNone
	}
	if len(l) > 200 {
		return nil, api.ErrMany
	}
	var cells []api.Cell
	for _, f := range l {
		c, errno := agg.One(s, mask, f)
		if errno != api.OK {
			return nil, errno
		}
		if cells, errno = defineAdd(cells, c); errno != api.OK {
			return nil, errno
		}
	}
	return defineOrder(cells), api.OK
}

// defineMerge returns what Merge must.
func defineMerge(a, b []api.Cell) ([]api.Cell, api.Errno) {
	if !defineIncreasing(a) || !defineIncreasing(b) {
		return nil, api.ErrArg
	}
	var keys []uint64
	for _, c := range slices.Concat(a, b) {
		keys = append(keys, c.Key)
	}
	slices.Sort(keys)
	var cells []api.Cell
	for _, k := range slices.Compact(keys) {
		i, inA := defineFind(a, k)
		j, inB := defineFind(b, k)
		switch {
		case inA && inB:
			c, errno := agg.Join(a[i], b[j])
			if errno != api.OK {
				return nil, errno
			}
			cells = append(cells, c)
		case inA:
			cells = append(cells, clone(a[i]))
		default:
			cells = append(cells, clone(b[j]))
		}
	}
	return cells, api.OK
}

// defineRoll returns what Roll must.
func defineRoll(s api.Schema, from, to uint32, l []api.Cell) ([]api.Cell, api.Errno) {
	if !defineRight(s, from, l) {
		return nil, api.ErrArg
	}
	if to|from != from {
		return nil, api.ErrNone
	}
	var cells []api.Cell
	for _, c := range l {
		c.Key = defineDown(s, from, to, c.Key)
		var errno api.Errno
		if cells, errno = defineAdd(cells, c); errno != api.OK {
			return nil, errno
		}
	}
	return defineOrder(cells), api.OK
}

// defineTotal returns what Total must.
func defineTotal(l []api.Cell) (api.Cell, api.Errno) {
	if len(l) == 0 {
		return api.Cell{}, api.ErrNone
	}
	total := clone(l[0])
	total.Key = 0
	for _, c := range l[1:] {
		c.Key = 0
		var errno api.Errno
		if total, errno = agg.Join(total, c); errno != api.OK {
			return api.Cell{}, errno
		}
	}
	return total, api.OK
}
