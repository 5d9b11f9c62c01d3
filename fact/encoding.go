package fact

import (
	"bushel/api"
	"bushel/buf"
	"bushel/schema"
)

// Put returns the encoding of a batch, or the error of Batch.
func Put(s api.Schema, l []api.Fact) ([]byte, api.Errno) {
	if _, errno := Batch(s, l); errno != api.OK {
		return nil, errno
	}
	out := buf.NewOut()
	out.U(uint64(len(l)))
	for _, f := range l {
		putEach(f.Codes, func(code int) { out.U(uint64(code)) })
		putEach(f.Ints, out.I)
		putEach(f.Nums, out.F)
	}
	return out.Bytes(), api.OK
}

// putEach writes each number by put.
func putEach[N any](l []N, put func(N)) {
	for _, x := range l {
		put(x)
	}
}

// Get returns the batch whose encoding is b, or why there is none.
func Get(s api.Schema, b []byte) ([]api.Fact, api.Errno) {
	if schema.Check(s) != api.OK {
		return nil, api.ErrArg
	}
	in := buf.NewIn(b)
	n := in.U(api.MaxFacts)
	// A number of facts of 0 stands before the bytes that may follow it. After a
	// fault the number is 0 as well.
	if _, errno := in.Fault(); errno == api.OK && n == 0 {
		return nil, api.ErrMany
	}
	l := getFacts(s, in, n)
	if errno := in.End(); errno != api.OK {
		return nil, errno
	}
	return l, api.OK
}

// getFacts reads n facts. After a fault, which the reader keeps, what it returns means
// nothing.
func getFacts(s api.Schema, in *buf.In, n uint64) []api.Fact {
	var l []api.Fact
	for range n {
		var f api.Fact
		for _, d := range s.Dims {
			f.Codes = append(f.Codes, int(in.U(uint64(d.Size-1))))
		}
		f.Ints = getEach(len(s.Ints), in.I)
		f.Nums = getEach(len(s.Nums), in.F)
		l = append(l, f)
	}
	return l
}

// getEach reads n numbers by get.
func getEach[N any](n int, get func() N) []N {
	var l []N
	for range n {
		l = append(l, get())
	}
	return l
}
