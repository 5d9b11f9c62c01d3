package schema

import (
	"slices"

	"bushel/api"
	"bushel/names"
)

// Check returns the error of s, or OK if it is valid.
func Check(s api.Schema) api.Errno {
	// The numbers come first, so that what follows has few elements to look at.
	if !numbersHold(s) {
		return api.ErrMany
	}
	all := slices.Concat(dimNames(s), s.Ints, s.Nums)
	switch {
	case !areNames(all):
		return api.ErrName
	case names.Twice(all) >= 0:
		return api.ErrTwice
	case !sizesHold(s.Dims):
		return api.ErrRange
	case !viewsHold(s.Views, base(s)):
		return api.ErrForm
	}
	return api.OK
}

// numbersHold reports whether there is a dimension, and not too many of anything.
func numbersHold(s api.Schema) bool {
	return len(s.Dims) >= 1 &&
		len(s.Dims) <= api.MaxDims &&
		len(s.Ints) <= api.MaxInts &&
		len(s.Nums) <= api.MaxNums &&
		len(s.Views) <= api.MaxViews
}

// areNames reports whether all elements are names.
func areNames(l []string) bool {
	for _, s := range l {
		if !names.Is(s) {
			return false
		}
	}
	return true
}

// sizesHold reports whether each Size, and the product of all, is in its range.
func sizesHold(dims []api.Dim) bool {
	keys := uint64(1)
	for _, d := range dims {
		if d.Size < 1 || d.Size > api.MaxSize {
			return false
		}
		keys *= uint64(d.Size)
		// Asked after each factor, since the product of all may not fit into 64 bits.
		if keys > api.MaxKeys {
			return false
		}
	}
	return true
}

// viewsHold reports whether the views are sets of dimensions other than the set of
// all, and strictly increasing.
func viewsHold(views []uint32, all uint32) bool {
	for i, v := range views {
		if v&^all != 0 || v == all {
			return false
		}
		if i > 0 && v <= views[i-1] {
			return false
		}
	}
	return true
}
