package advise_test

import (
	"slices"

	"bushel/api"
)

// The definitions below follow the chapter word by word. They look at all sets and at
// all views, element by element, and compute each cost from the beginning.

// has reports whether i is in the set a.
func has(a uint32, i int) bool {
	return a>>i%2 == 1
}

// within reports whether a is a subset of b.
func within(a, b uint32) bool {
	for i := range 32 {
		if has(a, i) && !has(b, i) {
			return false
		}
	}
	return true
}

// subsets returns all sets of so many dimensions, in increasing order of the masks.
func subsets(dims int) []uint32 {
	var l []uint32
	for a := uint32(0); int64(a) < int64(1)<<dims; a++ {
		l = append(l, a)
	}
	return l
}

// defineCost returns what Cost must of valid arguments.
func defineCost(dims int, sizes []int64, views []uint32) int64 {
	base := uint32(1)<<dims - 1
	cost := int64(0)
	for _, a := range subsets(dims) {
		fit := []int64{sizes[base]}
		for _, v := range views {
			if within(a, v) {
				fit = append(fit, sizes[v])
			}
		}
		cost += slices.Min(fit)
	}
	return cost
}

// defineGain returns what Gain must of valid arguments.
func defineGain(dims int, sizes []int64, views []uint32) int64 {
	return defineCost(dims, sizes, nil) - defineCost(dims, sizes, views)
}

// defineGains returns for each set the gain of the views together with it.
func defineGains(dims int, sizes []int64, views []uint32) []int64 {
	var gains []int64
	for _, a := range subsets(dims) {
		gains = append(gains, defineGain(dims, sizes, slices.Concat(views, []uint32{a})))
	}
	return gains
}

// defineChoose returns what Choose must of valid arguments.
func defineChoose(dims int, sizes []int64, k int) []uint32 {
	var chosen []uint32
	for len(chosen) < k {
		gains := defineGains(dims, sizes, chosen)
		if slices.Max(gains) == defineGain(dims, sizes, chosen) {
			return chosen
		}
		chosen = append(chosen, uint32(slices.Index(gains, slices.Max(gains))))
	}
	return chosen
}

// defineErrno returns the first error of the arguments, or OK.
func defineErrno(dims int, sizes []int64, views []uint32) api.Errno {
	if dims <= 0 || dims >= 7 {
		return api.ErrRange
	}
	if len(sizes) != len(subsets(dims)) {
		return api.ErrMany
	}
	for _, size := range sizes {
		if size <= 0 || size >= 1<<40+1 {
			return api.ErrRange
		}
	}
	for _, v := range views {
		for i := range 32 {
			if i >= dims && has(v, i) {
				return api.ErrNone
			}
		}
	}
	return api.OK
}
