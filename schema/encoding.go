package schema

import (
	"math"

	"bushel/api"
	"bushel/buf"
)

// Put returns the encoding of s, or the error of s.
func Put(s api.Schema) ([]byte, api.Errno) {
	if errno := Check(s); errno != api.OK {
		return nil, errno
	}
	out := buf.NewOut()
	putList(out, s.Dims, func(d api.Dim) {
		out.T(d.Name)
		out.U(uint64(d.Size))
	})
	putList(out, s.Ints, out.T)
	putList(out, s.Nums, out.T)
	putList(out, s.Views, func(v uint32) { out.U(uint64(v)) })
	return out.Bytes(), api.OK
}

// putList appends the number of elements, and each of them by put.
func putList[E any](out *buf.Out, l []E, put func(E)) {
	out.U(uint64(len(l)))
	for _, e := range l {
		put(e)
	}
}

// Get returns the schema whose encoding is b, or why there is none.
func Get(b []byte) (api.Schema, api.Errno) {
	in := buf.NewIn(b)
	s := read(in)
	errno := in.End()
	if errno == api.OK {
		errno = Check(s)
	}
	if errno != api.OK {
		return api.Schema{}, errno
	}
	return s, api.OK
}

// read reads a schema, valid or not. After a fault, which the reader keeps, what it
// returns means nothing.
func read(in *buf.In) api.Schema {
	var s api.Schema
	s.Dims = getList(in, api.MaxDims, func() api.Dim {
		var d api.Dim
		d.Name = in.T(api.MaxName)
		d.Size = int(in.U(api.MaxSize))
		return d
	})
	name := func() string { return in.T(api.MaxName) }
	s.Ints = getList(in, api.MaxInts, name)
	s.Nums = getList(in, api.MaxNums, name)
	s.Views = getList(in, api.MaxViews, func() uint32 { return uint32(in.U(math.MaxUint32)) })
	return s
}

// getList reads the number of elements, which is at most most, and each of them by
// get.
func getList[E any](in *buf.In, most uint64, get func() E) []E {
	var l []E
	for range in.U(most) {
		l = append(l, get())
	}
	return l
}
