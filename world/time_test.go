package world

import (
	"testing"

	"byroad/api"
)

// P30.3, P30.5: no time is above the greatest one. To get there by ticks would take too long.
func TestLastTime(t *testing.T) {
	w, e := New(Config{Seg: 100, Every: 1, Limit: 1, Most: 1, Room: 1000})
	if e != api.OK {
		t.Fatal("New", e)
	}
	ticks := func(n int, want api.Errno, now int64) {
		t.Helper()
		if e := w.Tick(n); e != want || w.Now() != now {
			t.Fatal("Tick", n, e, w.Now(), "not", want, now)
		}
	}
	settles := func(rounds int, want api.Errno) {
		t.Helper()
		if n, e := w.Settle(rounds); n != 0 || e != want {
			t.Fatal("Settle", rounds, n, e, "not", want)
		}
	}
	w.now = api.MaxTime - 1000
	settles(1000, api.OK)
	settles(1001, api.ErrArg)
	ticks(997, api.OK, api.MaxTime-3)
	ticks(4, api.ErrArg, api.MaxTime-3)
	ticks(1000, api.ErrArg, api.MaxTime-3)
	settles(4, api.ErrArg)
	settles(3, api.OK)
	ticks(3, api.OK, api.MaxTime)
	ticks(1, api.ErrArg, api.MaxTime)
	settles(1, api.ErrArg)
	settles(0, api.OK)
}
