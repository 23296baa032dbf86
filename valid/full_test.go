package valid

import (
	"testing"

	"byroad/api"
)

// P16.1: the last commit there may be. The history begins near it, for it takes too long to come there.
func TestFull(t *testing.T) {
	h := &History{floor: 1<<30 - 2}
	for n := h.Now() + 1; n <= 1<<30; n++ {
		if got, e := h.Add("x"); got != n || e != api.OK {
			t.Fatal(n, got, e)
		}
	}
	for _, keys := range [][]string{nil, {"x"}} {
		if n, e := h.Add(keys...); n != 0 || e != api.ErrFull || h.Now() != 1<<30 || len(h.Keys(1<<30+1)) != 0 {
			t.Error(n, e, h.Now())
		}
	}
	if n, ok := h.First(1<<30-1, "x"); n != 1<<30 || !ok {
		t.Error(n, ok)
	}
	if n := h.Forget(1<<30 + 5); n != 2 || h.Check(1<<30, "x") != api.OK || h.Check(1<<30+1) != api.ErrArg {
		t.Error(n, h.Floor())
	}
	if n, e := h.Add(); n != 0 || e != api.ErrFull {
		t.Error("all forgotten", n, e)
	}
}
