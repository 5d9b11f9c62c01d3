package fact_test

import (
	"math"
	"slices"

	"bushel/api"
	"bushel/code"
	"bushel/schema"
)

// The definitions below follow the chapter word by word.

// defineCheck returns what Check must.
func defineCheck(s api.Schema, f api.Fact) api.Errno {
	if schema.Check(s) != api.OK {
		return api.ErrArg
	}
	if len(f.Codes) != len(s.Dims) {
		return api.ErrMany
	}
	if len(f.Ints) != len(s.Ints) {
		return api.ErrMany
	}
	if len(f.Nums) != len(s.Nums) {
		return api.ErrMany
	}
	for i, d := range s.Dims {
		if f.Codes[i] < 0 {
			return api.ErrRange
		}
		if f.Codes[i] > d.Size-1 {
			return api.ErrRange
		}
	}
	return api.OK
}

// defineBatch returns what Batch must.
func defineBatch(s api.Schema, l []api.Fact) (int, api.Errno) {
	if schema.Check(s) != api.OK {
		return 0, api.ErrArg
	}
	if len(l) < 1 || len(l) > 200 {
		return 0, api.ErrMany
	}
	for i := range l {
		if errno := defineCheck(s, l[i]); errno != api.OK {
			return i, errno
		}
	}
	return 0, api.OK
}

// defineSame returns what Same must.
func defineSame(a, b api.Fact) bool {
	equal := func(x, y float64) bool {
		if math.IsNaN(x) || math.IsNaN(y) {
			return math.IsNaN(x) && math.IsNaN(y)
		}
		return x == y && math.Signbit(x) == math.Signbit(y)
	}
	return slices.Equal(a.Codes, b.Codes) && slices.Equal(a.Ints, b.Ints) && slices.EqualFunc(a.Nums, b.Nums, equal)
}

// definePut returns the encoding of facts, or what would be that of facts that are
// not valid.
func definePut(l []api.Fact) []byte {
	b := code.U(uint64(len(l)))
	for _, f := range l {
		for _, x := range f.Codes {
			b = append(b, code.U(uint64(x))...)
		}
		for _, x := range f.Ints {
			b = append(b, code.I(x)...)
		}
		for _, x := range f.Nums {
			b = append(b, code.F(x)...)
		}
	}
	return b
}

// rest is what is left of an encoding, and the first error.
type rest struct {
	b     []byte
	errno api.Errno
}

// take takes a value away, or keeps the first error and returns zero.
func take[V any](r *rest, get func([]byte) (V, int, api.Errno)) V {
	var none V
	if r.errno != api.OK {
		return none
	}
	x, n, errno := get(r.b)
	if errno != api.OK {
		r.errno = errno
		return none
	}
	r.b = r.b[n:]
	return x
}

// number takes a number away that has to be from least to most.
func (r *rest) number(least, most int, below api.Errno) int {
	x := take(r, code.GetU)
	if r.errno != api.OK {
		return 0
	}
	if x > uint64(most) {
		r.errno = api.ErrRange
	} else if x < uint64(least) {
		r.errno = below
	}
	if r.errno != api.OK {
		return 0
	}
	return int(x)
}

// defineGet returns what Get must.
func defineGet(s api.Schema, b []byte) ([]api.Fact, api.Errno) {
	if schema.Check(s) != api.OK {
		return nil, api.ErrArg
	}
	r := &rest{b: b}
	var l []api.Fact
	for n := r.number(1, 200, api.ErrMany); n > 0; n-- {
		var f api.Fact
		for _, d := range s.Dims {
			f.Codes = append(f.Codes, r.number(0, d.Size-1, api.OK))
		}
		for range s.Ints {
			f.Ints = append(f.Ints, take(r, code.GetI))
		}
		for range s.Nums {
			f.Nums = append(f.Nums, take(r, code.GetF))
		}
		l = append(l, f)
	}
	if r.errno == api.OK && len(r.b) > 0 {
		r.errno = api.ErrMore
	}
	if r.errno != api.OK {
		return nil, r.errno
	}
	return l, api.OK
}
