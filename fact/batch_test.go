package fact_test

import (
	"slices"
	"testing"

	"bushel/api"
	"bushel/fact"
)

// checkBatch fails if Batch does not return this index and this error, or if Put does
// not return the error.
func checkBatch(t *testing.T, s api.Schema, l []api.Fact, index int, want api.Errno) {
	t.Helper()
	defer settle(t)
	if i, got := fact.Batch(s, l); i != index || got != want {
		t.Errorf("Batch(%s, %s) = %d, %d; want %d, %d", text(s), textOf(l...), i, got, index, want)
	}
	b, got := fact.Put(s, l)
	if got != want {
		t.Errorf("Put(%s, %s) has the error %d; want %d", text(s), textOf(l...), got, want)
	}
	if (len(b) == 0) != (want != api.OK) {
		t.Errorf("Put(%s, %s) = %d, %d", text(s), textOf(l...), brief(b), got)
	}
}

// Promise 12.1: batches of 1 to 200 facts, one less and one more, and many more.
func TestBatchNumber(t *testing.T) {
	m := mixer(4)
	for _, s := range samples() {
		checkBatch(t, s, nil, 0, api.ErrMany)
		checkBatch(t, s, []api.Fact{}, 0, api.ErrMany)
		for _, n := range []int{1, 2, 3, 100, 199, 200} {
			checkBatch(t, s, m.batch(s, n), 0, api.OK)
		}
		for _, n := range []int{201, 202, 255, 256, 257, 400, 65536, 65537} {
			checkBatch(t, s, slices.Repeat([]api.Fact{m.fact(s)}, n), 0, api.ErrMany)
		}
	}
}

// Promise 12.1: a schema that is not valid comes before the number of facts, and before
// facts that are not valid.
func TestBatchBadSchema(t *testing.T) {
	for _, s := range notValid() {
		f := api.Fact{Codes: make([]int, len(s.Dims)), Ints: make([]int64, len(s.Ints)), Nums: make([]float64, len(s.Nums))}
		bad := api.Fact{Codes: []int{-1, -1, -1, -1}}
		checkBatch(t, s, nil, 0, api.ErrArg)
		checkBatch(t, s, []api.Fact{}, 0, api.ErrArg)
		for _, n := range []int{1, 2, 200, 201, 1000} {
			checkBatch(t, s, slices.Repeat([]api.Fact{f}, n), 0, api.ErrArg)
			checkBatch(t, s, slices.Repeat([]api.Fact{bad}, n), 0, api.ErrArg)
			checkBatch(t, s, append(slices.Repeat([]api.Fact{f}, n), bad), 0, api.ErrArg)
		}
	}
}

// faulty holds facts for made(1, 1, 2, 3), and their errors.
func faulty() []struct {
	want api.Errno
	f    api.Fact
} {
	one, two := []int64{5}, []float64{6}
	return []struct {
		want api.Errno
		f    api.Fact
	}{
		{api.ErrMany, api.Fact{}},
		{api.ErrMany, api.Fact{Codes: []int{1}, Ints: one, Nums: two}},
		{api.ErrMany, api.Fact{Codes: []int{1, 2, 0}, Ints: one, Nums: two}},
		{api.ErrMany, api.Fact{Codes: []int{1, 2}, Nums: two}},
		{api.ErrMany, api.Fact{Codes: []int{1, 2}, Ints: one}},
		{api.ErrMany, api.Fact{Codes: []int{7, 7, 7}, Ints: one, Nums: two}},
		{api.ErrRange, api.Fact{Codes: []int{1, 3}, Ints: one, Nums: two}},
		{api.ErrRange, api.Fact{Codes: []int{2, 2}, Ints: one, Nums: two}},
		{api.ErrRange, api.Fact{Codes: []int{-1, 2}, Ints: one, Nums: two}},
		{api.ErrRange, api.Fact{Codes: []int{1, -1}, Ints: one, Nums: two}},
	}
}

// Promise 12.1: one fact that is not valid, in each place.
func TestBatchFault(t *testing.T) {
	s := made(1, 1, 2, 3)
	m := mixer(5)
	for _, n := range []int{1, 2, 3, 7, 200} {
		for at := range n {
			for _, c := range faulty() {
				l := m.batch(s, n)
				l[at] = c.f
				checkBatch(t, s, l, at, c.want)
			}
		}
	}
}

// Promise 12.1: of several facts that are not valid the first decides, whatever its
// error.
func TestBatchFirstFault(t *testing.T) {
	s := made(1, 1, 2, 3)
	m := mixer(6)
	for _, first := range faulty() {
		for _, second := range faulty() {
			for _, at := range []int{0, 1, 100, 198} {
				l := m.batch(s, 200)
				l[at], l[199] = first.f, second.f
				checkBatch(t, s, l, at, first.want)
				l[at+1] = second.f
				checkBatch(t, s, l, at, first.want)
			}
		}
		checkBatch(t, s, slices.Repeat([]api.Fact{first.f}, 200), 0, first.want)
	}
}

// Promise 12.1: too many facts come before those that are not valid.
func TestBatchManyFaults(t *testing.T) {
	s := made(1, 1, 2, 3)
	m := mixer(8)
	for _, c := range faulty() {
		for _, at := range []int{0, 100, 199, 200} {
			l := m.batch(s, 201)
			l[at] = c.f
			checkBatch(t, s, l, 0, api.ErrMany)
		}
		checkBatch(t, s, slices.Repeat([]api.Fact{c.f}, 201), 0, api.ErrMany)
	}
}

// Promise 12.1: mixed batches, of which all errors come often.
func TestBatchMixed(t *testing.T) {
	m := mixer(9)
	all := append(samples(), notValid()...)
	count := map[api.Errno]int{}
	for range 6000 {
		s := of(&m, all)
		l := m.mixedBatch(s)
		index, want := defineBatch(s, l)
		checkBatch(t, s, l, index, want)
		count[want]++
	}
	for _, errno := range []api.Errno{api.OK, api.ErrArg, api.ErrMany, api.ErrRange} {
		if count[errno] < 200 {
			t.Errorf("only %d mixed batches have the error %d", count[errno], errno)
		}
	}
}
