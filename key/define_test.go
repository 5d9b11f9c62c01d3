package key_test

import (
	"bushel/api"
	"bushel/schema"
)

// The definitions below follow the chapter word by word, with plain arithmetic.

// defineFull returns the set of all dimensions.
func defineFull(s api.Schema) uint32 {
	return uint32(1)<<len(s.Dims) - 1
}

// defineIn reports whether a dimension is in a set.
func defineIn(mask uint32, dim int) bool {
	return mask&(uint32(1)<<dim) != 0
}

// defineNumber returns the number of keys of a set: the product of the Sizes of its
// dimensions.
func defineNumber(s api.Schema, mask uint32) uint64 {
	n := uint64(1)
	for i := range s.Dims {
		if defineIn(mask, i) {
			n *= uint64(s.Dims[i].Size)
		}
	}
	return n
}

// defineKey returns the key of codes.
func defineKey(s api.Schema, mask uint32, codes []int) uint64 {
	key := uint64(0)
	for i := range s.Dims {
		if defineIn(mask, i) {
			key *= uint64(s.Dims[i].Size)
			key += uint64(codes[i])
		}
	}
	return key
}

// defineOf returns what Of must.
func defineOf(s api.Schema, mask uint32, codes []int) (uint64, api.Errno) {
	if schema.Check(s) != api.OK {
		return 0, api.ErrArg
	}
	if mask&^defineFull(s) != 0 {
		return 0, api.ErrNone
	}
	if len(codes) != len(s.Dims) {
		return 0, api.ErrMany
	}
	for i := range s.Dims {
		if defineIn(mask, i) && !(codes[i] >= 0 && codes[i] <= s.Dims[i].Size-1) {
			return 0, api.ErrRange
		}
	}
	return defineKey(s, mask, codes), api.OK
}

// defineCodes returns what Codes must: a code changes once the codes of all later
// dimensions of the set have had all their values.
func defineCodes(s api.Schema, mask uint32, key uint64) ([]int, api.Errno) {
	if schema.Check(s) != api.OK {
		return nil, api.ErrArg
	}
	if mask&^defineFull(s) != 0 {
		return nil, api.ErrNone
	}
	if key >= defineNumber(s, mask) {
		return nil, api.ErrRange
	}
	var codes []int
	for i, d := range s.Dims {
		if !defineIn(mask, i) {
			codes = append(codes, -1)
			continue
		}
		later := mask >> (i + 1) << (i + 1)
		codes = append(codes, int(key/defineNumber(s, later)%uint64(d.Size)))
	}
	return codes, api.OK
}

// defineDown returns what Down must.
func defineDown(s api.Schema, from, to uint32, key uint64) (uint64, api.Errno) {
	if schema.Check(s) != api.OK {
		return 0, api.ErrArg
	}
	if from&^defineFull(s) != 0 {
		return 0, api.ErrNone
	}
	if to&^from != 0 {
		return 0, api.ErrNone
	}
	if key >= defineNumber(s, from) {
		return 0, api.ErrRange
	}
	codes, _ := defineCodes(s, from, key)
	return defineKey(s, to, codes), api.OK
}

// defineCode returns what Code must.
func defineCode(s api.Schema, mask uint32, key uint64, dim int) int {
	codes, errno := defineCodes(s, mask, key)
	if errno != api.OK {
		return -1
	}
	if dim < 0 || dim > len(s.Dims)-1 || !defineIn(mask, dim) {
		return -1
	}
	return codes[dim]
}
