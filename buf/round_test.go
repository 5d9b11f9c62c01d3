package buf_test

import (
	"testing"

	"bushel/api"
	"bushel/buf"
)

// checkRound holds promise 8.5: the values are written, and read back in the same
// order, with nothing left.
func checkRound(t *testing.T, l []value) {
	t.Helper()
	o := buf.NewOut()
	var ends []int
	for _, v := range l {
		v.put(o)
		// What Bytes returns in between does not matter.
		if len(l) < 9 {
			ends = append(ends, len(o.Bytes()))
		}
	}
	b := o.Bytes()
	i := buf.NewIn(b)
	for n, v := range l {
		if got := v.back.run(i); got != v.text {
			t.Errorf("value %d: %s = %s; want %s", n, v.back.name, got, v.text)
		}
		if len(ends) > 0 {
			checkLeft(t, i, len(b)-ends[n], v.text)
		}
	}
	checkLeft(t, i, 0, "behind all values")
	checkEnd(t, i, api.OK)
}

// Promise 8.5: no value, each value, each pair of the shorter ones, and all at
// once.
func TestRound(t *testing.T) {
	checkRound(t, nil)
	all := values()
	for _, v := range all {
		checkRound(t, []value{v})
		for _, w := range all {
			if len(v.encoding)+len(w.encoding) < 40 {
				checkRound(t, []value{v, w})
			}
		}
	}
	checkRound(t, all)
}

// Promise 8.5: sequences of mixed values of all kinds, short and long.
func TestRoundMixed(t *testing.T) {
	m := mixer(5)
	for _, length := range []int{3, 8, 50, 1000, 30000} {
		for range 1 + 3000/length {
			var l []value
			for range length {
				l = append(l, m.mixed())
			}
			checkRound(t, l)
		}
	}
}
