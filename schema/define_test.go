package schema_test

import (
	"math/big"
	"regexp"
	"slices"
	"strings"

	"bushel/api"
	"bushel/code"
)

// The definitions below follow the chapters word by word.

// reserved holds the reserved words, and form is what layer 10 says of a name's
// bytes.
const reserved = "and asc by count desc dev in limit max mean min order select share sum where"

var form = regexp.MustCompile(`^[a-z][a-z0-9_]{0,15}$`)

// defineCheck returns what Check must.
func defineCheck(s api.Schema) api.Errno {
	if len(s.Dims) == 0 || len(s.Dims) > 6 || len(s.Ints) > 3 || len(s.Nums) > 2 || len(s.Views) > 15 {
		return api.ErrMany
	}
	all := places(&s)
	for _, name := range all {
		if !form.MatchString(*name) || slices.Contains(strings.Fields(reserved), *name) {
			return api.ErrName
		}
	}
	for i := range all {
		for j := range i {
			if *all[i] == *all[j] {
				return api.ErrTwice
			}
		}
	}
	keys := big.NewInt(1)
	for _, d := range s.Dims {
		if d.Size < 1 || d.Size > 4096 {
			return api.ErrRange
		}
		keys.Mul(keys, big.NewInt(int64(d.Size)))
	}
	if keys.Cmp(big.NewInt(1<<40)) > 0 {
		return api.ErrRange
	}
	return defineForm(s)
}

// defineForm returns what the views let Check return.
func defineForm(s api.Schema) api.Errno {
	for i, v := range s.Views {
		elements := 0
		for bit := range 32 {
			if v/(1<<bit)%2 == 0 {
				continue
			}
			if bit >= len(s.Dims) {
				return api.ErrForm
			}
			elements++
		}
		if elements == len(s.Dims) || i > 0 && v <= s.Views[i-1] {
			return api.ErrForm
		}
	}
	return api.OK
}

// defineKeys returns what Keys must for a valid schema.
func defineKeys(s api.Schema, mask uint32) (uint64, bool) {
	keys := uint64(1)
	for bit := range 32 {
		if mask/(1<<bit)%2 == 0 {
			continue
		}
		if bit >= len(s.Dims) {
			return 0, false
		}
		keys *= uint64(s.Dims[bit].Size)
	}
	return keys, true
}

// definePut returns the encoding of a schema, or what would be that of a schema that
// is not valid.
func definePut(s api.Schema) []byte {
	b := code.U(uint64(len(s.Dims)))
	for _, d := range s.Dims {
		b = append(b, code.T(d.Name)...)
		b = append(b, code.U(uint64(d.Size))...)
	}
	for _, l := range [][]string{s.Ints, s.Nums} {
		b = append(b, code.U(uint64(len(l)))...)
		for _, name := range l {
			b = append(b, code.T(name)...)
		}
	}
	b = append(b, code.U(uint64(len(s.Views)))...)
	for _, v := range s.Views {
		b = append(b, code.U(uint64(v))...)
	}
	return b
}

// rest is what is left of an encoding, and the first error.
type rest struct {
	b     []byte
	errno api.Errno
}

// number takes a number away.
func (r *rest) number(most uint64) uint64 {
	x, n, errno := code.GetU(r.b)
	if errno == api.OK && x > most {
		errno = api.ErrRange
	}
	return uint64(r.take(int(x), n, errno))
}

// name takes a name away.
func (r *rest) name() string {
	s, n, errno := code.GetT(r.b)
	if errno == api.OK && len(s) > 16 {
		errno = api.ErrLong
	}
	if r.take(0, n, errno); r.errno != api.OK {
		return ""
	}
	return s
}

// take goes on by n bytes and returns x, or keeps the first error and returns 0.
func (r *rest) take(x, n int, errno api.Errno) int {
	if r.errno == api.OK {
		r.errno = errno
	}
	if r.errno != api.OK {
		return 0
	}
	r.b = r.b[n:]
	return x
}

// defineGet returns what Get must.
func defineGet(b []byte) (api.Schema, api.Errno) {
	r := &rest{b: b}
	var s api.Schema
	for n := r.number(6); n > 0; n-- {
		name := r.name()
		s.Dims = append(s.Dims, api.Dim{Name: name, Size: int(r.number(4096))})
	}
	for n := r.number(3); n > 0; n-- {
		s.Ints = append(s.Ints, r.name())
	}
	for n := r.number(2); n > 0; n-- {
		s.Nums = append(s.Nums, r.name())
	}
	for n := r.number(15); n > 0; n-- {
		s.Views = append(s.Views, uint32(r.number(1<<32-1)))
	}
	if r.errno == api.OK && len(r.b) > 0 {
		r.errno = api.ErrMore
	}
	if r.errno == api.OK {
		r.errno = defineCheck(s)
	}
	if r.errno != api.OK {
		return api.Schema{}, r.errno
	}
	return s, api.OK
}
