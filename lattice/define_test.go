package lattice_test

import (
	"slices"

	"bushel/api"
)

// The definitions below follow the chapter word by word. They look at sets element by
// element, and at all sets that there are.

// has reports whether i is in the set a.
func has(a uint32, i int) bool {
	return a>>i%2 == 1
}

// defineSub returns what Sub must.
func defineSub(a, b uint32) bool {
	for i := range 32 {
		if has(a, i) && !has(b, i) {
			return false
		}
	}
	return true
}

// defineCount returns what Count must.
func defineCount(a uint32) int {
	n := 0
	for i := range 32 {
		if has(a, i) {
			n++
		}
	}
	return n
}

// defineBetween returns what Between must. Only masks below 2^n are looked at.
func defineBetween(a, b uint32, n int) ([]uint32, api.Errno) {
	if !defineSub(a, b) {
		return nil, api.ErrArg
	}
	if defineCount(b)-defineCount(a) > 12 {
		return nil, api.ErrMany
	}
	var l []uint32
	for _, c := range subsets(n) {
		if defineSub(a, c) && defineSub(c, b) {
			l = append(l, c)
		}
	}
	return l, api.OK
}

// defineOrder returns what Order must, of masks below 2^n.
func defineOrder(l []uint32, n int) []uint32 {
	var all []uint32
	for count := n; count >= 0; count-- {
		for _, a := range subsets(n) {
			if defineCount(a) == count && slices.Contains(l, a) {
				all = append(all, a)
			}
		}
	}
	return all
}

// defineSize returns sizes[i], or 0.
func defineSize(sizes []int, i int) int {
	if i < len(sizes) {
		return sizes[i]
	}
	return 0
}

// defineSmallest returns the index that is among those that fit and that has the
// smallest size, and of these the first one.
func defineSmallest(sizes []int, fit []int) int {
	for _, i := range fit {
		smallest := true
		for _, j := range fit {
			if defineSize(sizes, j) < defineSize(sizes, i) {
				smallest = false
			}
		}
		if smallest {
			return i
		}
	}
	return -1
}

// defineCover returns what Cover must.
func defineCover(views []uint32, sizes []int, need uint32) int {
	var fit []int
	for i, v := range views {
		if defineSub(need, v) {
			fit = append(fit, i)
		}
	}
	return defineSmallest(sizes, fit)
}

// defineSteps returns what Steps must.
func defineSteps(views []uint32, sizes []int) []int {
	var steps []int
	for _, a := range views {
		var fit []int
		for i, v := range views {
			if defineSub(a, v) && !defineSub(v, a) {
				fit = append(fit, i)
			}
		}
		steps = append(steps, defineSmallest(sizes, fit))
	}
	return steps
}

// isIntersection reports whether a is the intersection of some sets of l. If so, it is
// that of all its supersets there.
func isIntersection(l []uint32, a uint32) bool {
	all, some := full, false
	for _, b := range l {
		if defineSub(a, b) {
			all, some = all&b, true
		}
	}
	return some && all == a
}

// defineClose returns what Close must, of masks below 2^n.
func defineClose(l []uint32, n int) ([]uint32, api.Errno) {
	if len(l) > 12 {
		return nil, api.ErrMany
	}
	var closed []uint32
	for _, a := range subsets(n) {
		if isIntersection(l, a) {
			closed = append(closed, a)
		}
	}
	return closed, api.OK
}

// defineCloseAny returns what Close must of at most 12 sets: the intersections of each
// choice of some of them.
func defineCloseAny(l []uint32) []uint32 {
	var closed []uint32
	for _, choice := range subsets(len(l))[1:] {
		all := full
		for i, a := range l {
			if has(choice, i) {
				all &= a
			}
		}
		closed = append(closed, all)
	}
	slices.Sort(closed)
	return slices.Compact(closed)
}
