package cells

import (
	"cmp"
	"slices"

	"bushel/agg"
	"bushel/api"
	"bushel/key"
	"bushel/schema"
)

// collection holds cells by their Keys.
type collection map[uint64]api.Cell

// Fold returns, for each key that occurs among the facts, the combination of the cells
// of its facts.
func Fold(s api.Schema, mask uint32, l []api.Fact) ([]api.Cell, api.Errno) {
	if schema.Check(s) != api.OK {
		return nil, api.ErrArg
	}
	if _, ok := schema.Keys(s, mask); !ok {
		return nil, api.ErrNone
	}
	if len(l) > api.MaxFacts {
		return nil, api.ErrMany
	}
	found := collection{}
	for _, f := range l {
		c, errno := agg.One(s, mask, f)
		if errno != api.OK {
			return nil, errno
		}
		if errno := found.put(c); errno != api.OK {
			return nil, errno
		}
	}
	return found.list(), api.OK
}

// Merge returns the cells of both lists, where cells with the same Key are combined.
func Merge(a, b []api.Cell) ([]api.Cell, api.Errno) {
	if !increasing(a) || !increasing(b) {
		return nil, api.ErrArg
	}
	var l []api.Cell
	for len(a) > 0 && len(b) > 0 {
		switch {
		case a[0].Key < b[0].Key:
			l = append(l, own(a[0]))
			a = a[1:]
		case b[0].Key < a[0].Key:
			l = append(l, own(b[0]))
			b = b[1:]
		default:
			c, errno := agg.Join(a[0], b[0])
			if errno != api.OK {
				return nil, errno
			}
			l = append(l, c)
			a, b = a[1:], b[1:]
		}
	}
	// One of the two has come to its end.
	for _, c := range slices.Concat(a, b) {
		l = append(l, own(c))
	}
	return l, api.OK
}

// Roll returns, for each key of the set to to which the key of some cell is converted,
// the combination of these cells.
func Roll(s api.Schema, from, to uint32, l []api.Cell) ([]api.Cell, api.Errno) {
	if !Right(s, from, l) {
		return nil, api.ErrArg
	}
	if to&^from != 0 {
		return nil, api.ErrNone
	}
	found := collection{}
	for _, c := range l {
		// The Key of a valid cell can be converted to each subset.
		c.Key, _ = key.Down(s, from, to, c.Key)
		if errno := found.put(c); errno != api.OK {
			return nil, errno
		}
	}
	return found.list(), api.OK
}

// Total returns the combination of all cells, whatever their Keys are, with Key 0.
func Total(l []api.Cell) (api.Cell, api.Errno) {
	if len(l) == 0 {
		return api.Cell{}, api.ErrNone
	}
	found := collection{}
	for _, c := range l {
		c.Key = 0
		if errno := found.put(c); errno != api.OK {
			return api.Cell{}, errno
		}
	}
	return found[0], api.OK
}

// put combines a cell with those of the same Key that were put before, or returns the
// error of that.
func (m collection) put(c api.Cell) api.Errno {
	before, ok := m[c.Key]
	if !ok {
		// It may be the only one of its Key, and then it would be returned as it was
		// given.
		m[c.Key] = own(c)
		return api.OK
	}
	joined, errno := agg.Join(before, c)
	if errno != api.OK {
		return errno
	}
	m[c.Key] = joined
	return api.OK
}

// list returns the cells in increasing order of their Keys.
func (m collection) list() []api.Cell {
	l := make([]api.Cell, 0, len(m))
	for _, c := range m {
		l = append(l, c)
	}
	slices.SortFunc(l, func(a, b api.Cell) int { return cmp.Compare(a.Key, b.Key) })
	return l
}
