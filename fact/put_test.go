package fact_test

import (
	"bytes"
	"math"
	"slices"
	"testing"

	"bushel/api"
	"bushel/fact"
)

// checkPut fails if Put does not return these bytes.
func checkPut(t *testing.T, s api.Schema, l []api.Fact, want []byte) {
	t.Helper()
	defer settle(t)
	if got, errno := fact.Put(s, l); !bytes.Equal(got, want) || errno != api.OK {
		t.Errorf("Put(%s, %s) = %d, %d; want %d, 0", text(s), textOf(l...), brief(got), errno, brief(want))
	}
}

// answer is a batch and its encoding.
type answer struct {
	s    api.Schema
	l    []api.Fact
	want []byte
}

// written holds encodings written out.
func written() []answer {
	two := made(1, 1, 300, 2)
	return []answer{
		{example(), []api.Fact{{Codes: []int{1}, Ints: []int64{-3}}}, []byte{1, 1, 1, 1, 7, 253}},
		{made(0, 0, 1), []api.Fact{{Codes: []int{0}}}, []byte{1, 1, 0}},
		{made(0, 0, 1), []api.Fact{{Codes: []int{0}}, {Codes: []int{0}}}, []byte{1, 2, 0, 0}},
		{made(0, 0, 4096), []api.Fact{{Codes: []int{4095}}}, []byte{1, 1, 2, 15, 255}},
		{
			two,
			[]api.Fact{
				{Codes: []int{299, 0}, Ints: []int64{0}, Nums: []float64{0}},
				{Codes: []int{5, 1}, Ints: []int64{300}, Nums: []float64{math.Copysign(0, -1)}},
			},
			[]byte{1, 2, 2, 1, 43, 0, 9, 128, 0, 0, 0, 0, 0, 0, 0, 1, 5, 1, 1, 11, 1, 44, 127, 255, 255, 255, 255, 255, 255, 255},
		},
		{
			two,
			[]api.Fact{{Codes: []int{0, 0}, Ints: []int64{math.MaxInt64}, Nums: []float64{math.NaN()}}},
			[]byte{1, 1, 0, 0, 17, 127, 255, 255, 255, 255, 255, 255, 255, 255, 255, 255, 255, 255, 255, 255, 255},
		},
		{
			two,
			[]api.Fact{{Codes: []int{0, 0}, Ints: []int64{math.MinInt64}, Nums: []float64{math.Inf(-1)}}},
			[]byte{1, 1, 0, 0, 0, 128, 0, 0, 0, 0, 0, 0, 0, 0, 15, 255, 255, 255, 255, 255, 255},
		},
		{
			made(0, 2, 2),
			[]api.Fact{{Codes: []int{1}, Nums: []float64{1, -1}}},
			[]byte{1, 1, 1, 1, 191, 240, 0, 0, 0, 0, 0, 0, 64, 15, 255, 255, 255, 255, 255, 255},
		},
	}
}

// Promise 12.3: encodings written out.
func TestPutWritten(t *testing.T) {
	for _, c := range written() {
		checkPut(t, c.s, c.l, c.want)
	}
}

// Promise 12.3: batches of any number of facts, for schemas of all kinds.
func TestPut(t *testing.T) {
	m := mixer(12)
	for _, s := range samples() {
		for _, n := range []int{1, 2, 3, 50, 127, 128, 199, 200} {
			l := m.batch(s, n)
			checkPut(t, s, l, definePut(l))
		}
	}
}

// Promise 12.3: each number as any measure.
func TestPutNumbers(t *testing.T) {
	s := made(3, 2, 2)
	f := api.Fact{Codes: []int{1}, Ints: []int64{1, 2, 3}, Nums: []float64{4, 5}}
	for i := range f.Ints {
		for _, x := range integers() {
			l := []api.Fact{f, clone(f), f}
			l[1].Ints[i] = x
			checkPut(t, s, l, definePut(l))
		}
	}
	for i := range f.Nums {
		for _, x := range floats() {
			l := []api.Fact{f, clone(f), f}
			l[1].Nums[i] = x
			checkPut(t, s, l, definePut(l))
		}
	}
}

// Promise 12.3: all NaN have one encoding, 0 and -0 have two.
func TestPutFloats(t *testing.T) {
	put := func(x float64) []byte {
		b, _ := fact.Put(made(0, 1, 1), []api.Fact{{Codes: []int{0}, Nums: []float64{x}}})
		return b
	}
	if !bytes.Equal(put(math.NaN()), put(strangeNaN())) {
		t.Errorf("NaN are %d and %d", put(math.NaN()), put(strangeNaN()))
	}
	if bytes.Equal(put(0), put(math.Copysign(0, -1))) {
		t.Errorf("both zeros are %d", put(0))
	}
}

// Promise 12.3: empty lists are none.
func TestPutEmpty(t *testing.T) {
	s := made(0, 0, 5)
	checkPut(t, s, []api.Fact{{Codes: []int{4}, Ints: []int64{}, Nums: []float64{}}}, []byte{1, 1, 1, 4})
	checkPut(t, s, []api.Fact{{Codes: []int{4}}}, []byte{1, 1, 1, 4})
	s.Ints, s.Nums, s.Views = []string{}, []string{}, []uint32{}
	checkPut(t, s, []api.Fact{{Codes: []int{4}}}, []byte{1, 1, 1, 4})
}

// Promise 12.3: Put returns the error of Batch alone.
func TestPutError(t *testing.T) {
	s := made(1, 1, 2, 3)
	good := api.Fact{Codes: []int{1, 2}, Ints: []int64{3}, Nums: []float64{4}}
	checkBatch(t, s, nil, 0, api.ErrMany)
	checkBatch(t, s, slices.Repeat([]api.Fact{good}, 201), 0, api.ErrMany)
	checkBatch(t, api.Schema{}, []api.Fact{good}, 0, api.ErrArg)
	for _, c := range faulty() {
		checkBatch(t, s, []api.Fact{c.f}, 0, c.want)
		checkBatch(t, s, []api.Fact{good, c.f, good}, 1, c.want)
		checkBatch(t, s, append(slices.Repeat([]api.Fact{good}, 199), c.f), 199, c.want)
	}
}
