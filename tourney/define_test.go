package tourney_test

import (
	"slices"

	"bushel/agg"
	"bushel/api"
)

// The definitions below follow the chapter word by word, with what layer 14 has for two
// cells. They use no heap: they look at all elements for each one.

// defineIncreasing reports whether the Keys are strictly increasing.
func defineIncreasing(l []api.Cell) bool {
	for i := range l {
		for j := range i {
			if l[j].Key >= l[i].Key {
				return false
			}
		}
	}
	return true
}

// defineSame reports whether two lists have equal cells.
func defineSame(a, b []api.Cell) bool {
	if len(a) != len(b) {
		return false
	}
	for i := range a {
		if !agg.Same(a[i], b[i]) {
			return false
		}
	}
	return true
}

// defineMerge returns what Merge must.
func defineMerge(lists [][]api.Cell) ([]api.Cell, api.Errno) {
	var keys []uint64
	for _, l := range lists {
		if !defineIncreasing(l) {
			return nil, api.ErrArg
		}
		for _, c := range l {
			keys = append(keys, c.Key)
		}
	}
	slices.Sort(keys)
	var merged []api.Cell
	for _, k := range slices.Compact(keys) {
		var alike []api.Cell
		for _, l := range lists {
			for _, c := range l {
				if c.Key == k {
					alike = append(alike, c)
				}
			}
		}
		all := clone(alike[0])
		for _, c := range alike[1:] {
			var errno api.Errno
			if all, errno = agg.Join(all, c); errno != api.OK {
				return nil, errno
			}
		}
		merged = append(merged, all)
	}
	return merged, api.OK
}

// definePrecedes reports whether a byte string precedes another one in the order of
// layer 7.
func definePrecedes(a, b []byte) bool {
	for i := range min(len(a), len(b)) {
		if a[i] != b[i] {
			return a[i] < b[i]
		}
	}
	return len(a) < len(b)
}

// defineBefore returns the number of elements that come before the one at i.
func defineBefore(l [][]byte, i int) int {
	n := 0
	for j := range l {
		if definePrecedes(l[j], l[i]) || !definePrecedes(l[i], l[j]) && j < i {
			n++
		}
	}
	return n
}

// defineSort returns what Sort must.
func defineSort(l [][]byte) []int {
	sorted := make([]int, len(l))
	for i := range l {
		sorted[defineBefore(l, i)] = i
	}
	return sorted
}

// defineLeast returns what Least must.
func defineLeast(l [][]byte, k int) []int {
	if k < 1 {
		return nil
	}
	sorted := defineSort(l)
	if k >= len(l) {
		return sorted
	}
	return sorted[:k]
}
