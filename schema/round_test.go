package schema_test

import (
	"testing"

	"bushel/api"
	"bushel/schema"
)

// checkRound fails if Get does not invert Put of a valid schema, or Put does not
// invert Get of its encoding.
func checkRound(t *testing.T, s api.Schema) {
	t.Helper()
	b, errno := schema.Put(s)
	if errno != api.OK {
		t.Errorf("Put of %s has the error %d", text(s), errno)
	}
	checkGet(t, b, s)
	again, _ := schema.Get(b)
	checkSame(t, again, s, true)
	checkPut(t, again, b)
}

// Promise 11.4: valid schemas of all kinds.
func TestRound(t *testing.T) {
	for _, s := range samples() {
		checkRound(t, s)
	}
	m := mixer(16)
	for range 5000 {
		checkRound(t, m.valid())
	}
}

// Promise 11.4: empty lists are none.
func TestRoundEmpty(t *testing.T) {
	checkRound(t, api.Schema{Dims: dims(3)})
	checkRound(t, api.Schema{Dims: dims(3), Ints: []string{}, Nums: []string{}, Views: []uint32{}})
}

// Promise 11.4: different schemas have different encodings.
func TestRoundDiffers(t *testing.T) {
	seen := map[string]int{}
	for i, s := range samples() {
		b, _ := schema.Put(s)
		if other, ok := seen[string(b)]; ok {
			t.Errorf("samples %d and %d have one encoding", other, i)
		}
		seen[string(b)] = i
	}
}
