package exact_test

import (
	"testing"

	"bushel/exact"
)

// unmade holds sums that come neither from New nor from Read.
func unmade() map[string]*exact.Sum {
	return map[string]*exact.Sum{"nil": nil, "a zero Sum": {}, "new(Sum)": new(exact.Sum)}
}

// Promise 5.4: each call for a nil sum and for one that was not made.
func TestUnmade(t *testing.T) {
	for name, s := range unmade() {
		checkUnmade(t, name, s)
		for _, x := range all() {
			if s.Add(x) {
				t.Errorf("Add(%x) to %s answers true", x, name)
			}
		}
		for _, x := range all() {
			o := sumOf(t, x)
			if s.Join(o) || s.Join(read(t, o.Bytes())) {
				t.Errorf("Join of %s with %x answers true", name, x)
			}
			checkBytes(t, o, modelOf(x).encoding(), x, "joined to", name)
		}
		if s.Join(exact.New()) || s.Join(s) {
			t.Errorf("Join of %s with an empty sum or itself answers true", name)
		}
		for other, o := range unmade() {
			if s.Join(o) {
				t.Errorf("Join of %s with %s answers true", name, other)
			}
		}
		// What was refused has made no sum of it.
		checkUnmade(t, name, s)
	}
}

func checkUnmade(t *testing.T, name string, s *exact.Sum) {
	t.Helper()
	checkFloat(t, s.Value(), 0, "Value of "+name)
	for _, n := range []int64{1, 2, 3, most} {
		checkFloat(t, s.Mean(n), 0, "Mean of "+name, n)
	}
	for _, n := range []int64{0, -1, least} {
		checkFloat(t, s.Mean(n), nan, "Mean of "+name, n)
	}
	checkBytes(t, s, nil, name)
}

// Promise 5.4: a sum cannot be joined with one that was not made, and stays as it
// is.
func TestJoinUnmade(t *testing.T) {
	for name, o := range unmade() {
		for _, x := range all() {
			for _, s := range []*exact.Sum{sumOf(t, x), read(t, modelOf(x).encoding())} {
				if s.Join(o) {
					t.Errorf("Join of %x with %s answers true", x, name)
				}
				checkBytes(t, s, modelOf(x).encoding(), x, "joined with", name)
			}
		}
		s := exact.New()
		if s.Join(o) {
			t.Errorf("Join of an empty sum with %s answers true", name)
		}
		checkBytes(t, s, encoding(0, 0), "an empty sum joined with", name)
		checkUnmade(t, name, o)
	}
}
