package fact_test

import (
	"bytes"
	"testing"

	"bushel/api"
	"bushel/fact"
)

// checkRound fails if Get does not invert Put of a batch, or Put does not invert Get
// of its encoding.
func checkRound(t *testing.T, s api.Schema, l []api.Fact) {
	t.Helper()
	defer settle(t)
	b, errno := fact.Put(s, l)
	if errno != api.OK {
		t.Errorf("Put(%s, %s) has the error %d", text(s), textOf(l...), errno)
	}
	checkGet(t, s, b, l)
	again, _ := fact.Get(s, b)
	checkPut(t, s, again, b)
	for i, f := range again {
		checkSame(t, f, l[i], true)
	}
}

// Promise 12.4: batches of any number of facts.
func TestRound(t *testing.T) {
	m := mixer(21)
	for _, s := range samples() {
		for n := 1; n <= 200; n++ {
			checkRound(t, s, m.batch(s, n))
		}
	}
}

// Promise 12.4: each number as any measure.
func TestRoundNumbers(t *testing.T) {
	s := made(2, 2, 7)
	for _, x := range integers() {
		for _, y := range floats() {
			checkRound(t, s, []api.Fact{
				{Codes: []int{6}, Ints: []int64{x, 0}, Nums: []float64{0, y}},
				{Codes: []int{0}, Ints: []int64{1, x}, Nums: []float64{y, 2}},
			})
		}
	}
}

// Promise 12.4: empty lists are none.
func TestRoundEmpty(t *testing.T) {
	checkRound(t, made(0, 0, 2), []api.Fact{{Codes: []int{1}, Ints: []int64{}, Nums: []float64{}}, {Codes: []int{0}}})
}

// Promise 12.4: Put of what Get returned is what it was given, whatever the bytes.
func TestRoundOfBytes(t *testing.T) {
	m := mixer(22)
	found := 0
	for range 20000 {
		s := of(&m, samples())
		b := m.spoilBytes(definePut(m.batch(s, 1+m.below(3))))
		l, errno := fact.Get(s, b)
		if errno != api.OK {
			continue
		}
		found++
		if again, errno := fact.Put(s, l); !bytes.Equal(again, b) || errno != api.OK {
			t.Fatalf("Get(%s, %d) has %s, whose encoding is %d, %d", text(s), b, textOf(l...), again, errno)
		}
	}
	if found < 3000 {
		t.Errorf("only %d byte strings were encodings", found)
	}
}

// Promise 12.4: different batches have different encodings.
func TestRoundDiffers(t *testing.T) {
	m := mixer(23)
	s := made(1, 1, 3, 3)
	seen := map[string][]api.Fact{}
	for range 5000 {
		l := m.batch(s, 1+m.below(2))
		b, _ := fact.Put(s, l)
		if other, ok := seen[string(b)]; ok && !equalFacts(l, other) {
			t.Fatalf("%s and %s have one encoding", textOf(l...), textOf(other...))
		}
		seen[string(b)] = l
	}
}
