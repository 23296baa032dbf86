package world_test

import (
	"testing"

	"byroad/api"
	"byroad/mess"
)

// The document's ten examples of the whole.

// Example 1
func TestFirstPath(t *testing.T) {
	r := fresh(t)
	r.sets(2, "put z 4")
	r.submit(usual, 1)
	r.settle()
	r.stands(1, committed, 2)
	r.rows("x 5|z 1|")
	r.fails("")
}

// Example 2
func TestOtherPath(t *testing.T) {
	r := fresh(t)
	r.sets(2, "put z 1")
	r.submit(usual, 1)
	r.settle()
	r.stands(1, committed, 3)
	r.rows("x 5|z 1|w 1")
	r.fails("1.2!24")
}

// Example 3
func TestDoubled(t *testing.T) {
	for z, want := range map[string]string{"put z 4": "x 5|z 1|", "put z 1": "x 5|z 1|w 1"} {
		r := fresh(t)
		r.sets(2, z)
		r.submit(usual, 1)
		r.does(r.Tick(1), r.Twice(0))
		for r.Packets() > 0 {
			n := r.Packets() - 1
			r.does(r.Deliver(0))
			for i := n; i < r.Packets(); i += 2 {
				r.does(r.Twice(i), r.Move(r.Packets()-1, i))
			}
		}
		r.rows(want)
		if l, _ := r.List(); len(l) != 0 {
			t.Error("active still", l)
		}
		if n := len(r.Tickets()); n != 2 {
			t.Error("tickets", r.Tickets())
		}
	}
}

// Example 4
func TestKeptAgain(t *testing.T) {
	r := fresh(t, usual)
	r.does(r.Tick(1))
	r.come("held 1.1>0", "keep 1.1>1", "kept 1.1>0")
	r.does(r.Drop(0), r.Crash(1), r.Start(1))
	if !r.Site(1).Has("k1.1") {
		t.Error("no mark", r.Site(1).Rows())
	}
	r.does(r.Tick(3))
	r.under("keep 1.1>1")
	r.come("kept 1.1>0", "run 1.2>2")
	r.tickets("[{1 0 1}]")
}

// Example 5
func TestManagerAnew(t *testing.T) {
	for _, dropped := range []bool{false, true} {
		r := fresh(t, usual)
		r.does(r.Tick(1))
		r.come("held 1.1>0", "keep 1.1>1", "kept 1.1>0", "run 1.2>2", "failed 1.2>0", "drop 1.2>2")
		if dropped {
			r.come("dropped 1.2>0")
		}
		r.does(r.Drop(0), r.Crash(0), r.Start(0), r.Tick(1))
		r.under("run 1.2>2")
		if dropped {
			r.come("dropped 1.2>0", "run 1.3>3")
		} else {
			r.come("failed 1.2>0", "drop 1.2>2")
		}
		r.settle()
		r.stands(1, committed, 3)
	}
}

// Example 6
func TestSlow(t *testing.T) {
	r := fresh(t, usual)
	id := r.begin(1, "put x 1")
	r.does(r.Tick(1), r.Deliver(0), r.Tick(4))
	r.fails("")
	r.does(r.Tick(1))
	r.fails("1.1!27")
	r.does(r.Commit(1, id))
	r.settle()
	r.stands(1, aborted, 0)
	r.rows("x 1||")
}

// Example 7
func TestCancelled(t *testing.T) {
	for come := range 5 {
		r := fresh(t, usual)
		r.does(r.Tick(1))
		for range come {
			r.does(r.Deliver(0))
		}
		want := api.OK
		if come == 4 {
			want = api.ErrPast // a is kept, and b is next
		}
		is(t, "Cancel", r.Cancel(1), want)
		r.settle()
		if want == api.ErrPast {
			r.stands(1, committed, 3)
			continue
		}
		r.stands(1, aborted, 0)
		r.rows(map[bool]string{false: "||", true: "x 0||"}[come >= 2]) // what was to be kept already was taken back
	}
}

// Example 8
func TestSecondWaits(t *testing.T) {
	r := fresh(t)
	r.sets(2, "put z 4")
	r.submit(usual, 1)
	r.submit(subs+"e", 2)
	r.does(r.Tick(1))
	r.come("held 1.1>0", "keep 1.1>1", "kept 1.1>0", "run 1.2>2", "held 1.2>0", "keep 1.2>2", "kept 1.2>0", "run 2.1>1")
	r.stands(1, committed, 2)
	r = fresh(t, usual, subs+"e")
	r.does(r.Tick(1), r.Cancel(1), r.Tick(2))
	r.under("run 1.1>1, drop 1.1>1")
	r.come("drop 1.1>1, held 1.1>0", "held 1.1>0, dropped 1.1>0", "dropped 1.1>0", "run 2.1>1")
	r.stands(1, aborted, 0)
}

// Example 9
func TestStuck(t *testing.T) {
	r := fresh(t)
	r.stays(func() {
		if g, node, e := r.Submit(subs + "b a"); g != 0 || node != 1 || e != api.ErrStuck {
			t.Error("Submit", g, node, e)
		}
	})
}

// Example 10, P0.8
func TestClean(t *testing.T) {
	r := fresh(t, usual, subs+"e b\npath d")
	r.settle()
	if l := r.Site(1).Names(""); len(l) < 2 {
		t.Error("there are no marks", l)
	}
	r.submit(subs+"e", 3)
	r.does(r.Tick(1))
	if m, ok := r.Packet(0); !ok || m.Kind != mess.Run || m.Low != 3 {
		t.Error("Packet", m)
	}
	r.come("held 3.1>0")
	if l := r.Site(1).Names(""); len(l) != 1 || l[0] != "g" || r.Agent(1).Low() != 3 {
		t.Error("marks", l, r.Agent(1).Low())
	}
}
