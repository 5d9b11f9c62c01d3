package buf_test

import (
	"testing"

	"bushel/api"
	"bushel/buf"
)

// Promise 8.4: each method of a nil Out, and of ones that NewOut did not make.
func TestUnmadeOut(t *testing.T) {
	for name, o := range map[string]*buf.Out{"nil": nil, "a zero Out": {}, "new(Out)": new(buf.Out)} {
		checkBytes(t, o, nil, name)
		for _, v := range values() {
			v.put(o)
			checkBytes(t, o, nil, name+" behind "+v.text)
		}
	}
}

// Promise 8.4: each method of a nil In, and of ones that NewIn did not make; none
// of them makes the others answer otherwise.
func TestUnmadeIn(t *testing.T) {
	for name, i := range map[string]*buf.In{"nil": nil, "a zero In": {}, "new(In)": new(buf.In)} {
		if got := i.Left(); got != 0 {
			t.Errorf("Left of %s = %d", name, got)
		}
		if at, errno := i.Fault(); at != 0 || errno != api.ErrClosed {
			t.Errorf("Fault of %s = %d, %d; want 0, %d", name, at, errno, api.ErrClosed)
		}
		checkEnd(t, i, api.ErrClosed)
		for _, v := range values() {
			checkRefused(t, i, v.back, 0, api.ErrClosed)
		}
		checkFault(t, i, 0, api.ErrClosed, name)
	}
}
