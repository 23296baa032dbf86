package world_test

import (
	"math"
	"testing"

	"byroad/agent"
	"byroad/api"
	"byroad/mess"
	"byroad/world"
)

// nowhere are numbers of no node.
var nowhere = []int{math.MinInt, -1, 4, 1 << 32, math.MaxInt}

// P30.3: Tick.
func TestTick(t *testing.T) {
	r := fresh(t)
	r.stays(func() {
		for _, n := range []int{math.MinInt, -1, 0, 1001, 1<<32 + 1, math.MaxInt} {
			is(t, "Tick", r.Tick(n), api.ErrArg)
		}
	})
	for i, n := range []int{1, 1000, 7} {
		r.does(r.Tick(n))
		if want := []int64{1, 1001, 1008}[i]; r.Now() != want {
			t.Error("Now", r.Now(), "not", want)
		}
	}
	r.submit(usual, 1)
	r.submit(subs+"c", 2) // it waits for site 2
	r.under("")
	r.does(r.Tick(1))
	r.under("run 1.1>1")
	r.does(r.Tick(2))
	r.under("run 1.1>1")
	r.does(r.Tick(1))
	r.under("run 1.1>1, run 1.1>1") // again, behind every ticks
	r.does(r.Tick(6))
	if r.Packets() != 4 || r.Now() != 1018 {
		t.Error("each of several ticks", r.way(), r.Now())
	}
}

// P30.3: of a tick the manager tells first, then the agents, by rising nodes.
func TestTickOrder(t *testing.T) {
	r := fresh(t, subs+"e", subs+"b", subs+"c")
	locks := r.begin(1, "put u 1")
	r.sets(2, "put z 9")
	versions := r.begin(2, "put z 9")
	r.does(r.Tick(1))
	r.come("run 2.1>2, run 3.1>3", "run 3.1>3", "held 3.1>0")
	r.does(r.Drop(0), r.Tick(2), r.Commit(1, locks), r.Commit(2, versions), r.Tick(1))
	r.under("run 1.1>1, run 2.1>2, run 3.1>3, held 1.1>0, held 2.1>0")
}

// P30.3: packets wait one tick less, ahead of what is told in that tick.
func TestTickPackets(t *testing.T) {
	r := fresh(t)
	if r.Inject(request()) != 1 {
		t.Fatal("Inject")
	}
	r.does(r.Hold(0, 3), r.Tick(2))
	is(t, "Deliver", r.Deliver(0), api.ErrBusy)
	r.does(r.Tick(1), r.Deliver(0))
}

// P30.3: nodes that are down do nothing in a tick.
func TestTickDown(t *testing.T) {
	r := fresh(t, subs+"e")
	locks := r.begin(1, "put u 1")
	r.does(r.Tick(1), r.Deliver(0), r.Commit(1, locks), r.Crash(0), r.Tick(9))
	r.under("held 1.1>0")
	r.does(r.Drop(0), r.Start(0), r.Crash(1), r.Tick(1))
	r.under("run 1.1>1")
	if r.Now() != 11 {
		t.Error("Now", r.Now())
	}
}

// P30.3: a node whose power fails in a tick is down in the next one.
func TestTickFails(t *testing.T) {
	r := fresh(t, subs+"e", subs+"c")
	r.does(r.Tick(1), r.Drop(1))
	r.come("held 1.1>0", "keep 1.1>1", "kept 1.1>0")
	r.does(r.Fuse(0, 1), r.Deliver(0)) // it was written down, but not synced
	if r.Up(0) {
		t.Fatal("it is up")
	}
	r.does(r.Crash(0, full), r.Start(0))
	r.stands(1, running, 1)
	r.does(r.Fuse(0, 0), r.Tick(9)) // the end can't be written down
	r.under("run 2.1>3")            // what it told in that tick alone
	if r.Up(0) || r.Now() != 10 {
		t.Error("it is up", r.Now())
	}
	r.does(r.Start(0), r.Tick(1))
	r.stands(1, committed, 1)
}

// P30.3: Deliver.
func TestDeliver(t *testing.T) {
	r := fresh(t, usual)
	r.does(r.Tick(1))
	r.stays(func() {
		for _, i := range []int{math.MinInt, -1, 1, math.MaxInt} {
			is(t, "Deliver", r.Deliver(i), api.ErrNone)
		}
	})
	r.does(r.Hold(0, 1))
	r.stays(func() { is(t, "Deliver", r.Deliver(0), api.ErrBusy) })
	r.does(r.Tick(1), r.Part(1))
	r.stays(func() { is(t, "Deliver", r.Deliver(0), api.ErrBusy) })
	r.does(r.Heal(1), r.Twice(0), r.Spoil(1, 77), r.Twice(0), r.Twice(0))
	r.under("run 1.1>1, ?, run 1.1>1, run 1.1>1")
	is(t, "Deliver", r.Deliver(1), api.ErrForm)
	r.under("run 1.1>1, run 1.1>1, run 1.1>1")
	r.does(r.Crash(1))
	is(t, "Deliver", r.Deliver(2), api.ErrDown)
	r.under("run 1.1>1, run 1.1>1")
	r.does(r.Start(1))
	r.does(r.Deliver(1))
	r.under("run 1.1>1, held 1.1>0")
	r.does(r.Crash(0))
	is(t, "Deliver", r.Deliver(1), api.ErrDown)
	r.under("run 1.1>1")
	r.does(r.Start(0), r.Deliver(0))
	r.under("held 1.1>0")
	r.does(r.Deliver(0))
	r.under("") // the manager that was opened again has asked nothing
	r.does(r.Tick(1))
	r.come("held 1.1>0", "keep 1.1>1", "kept 1.1>0", "run 1.2>2")
}

// P30.3: what may be done to packets is the net's.
func TestPackets(t *testing.T) {
	r := fresh(t)
	for g := 1; g <= 3; g++ {
		m := request()
		m.G = g
		if r.Inject(m) != 1 {
			t.Fatal("Inject", g)
		}
	}
	bad := request()
	bad.G = 0
	if r.Inject(bad) != 0 || r.Inject(mess.Msg{}) != 0 {
		t.Error("what may not be was sent")
	}
	r.does(r.Move(2, 0))
	r.under("run 3.3>2, run 1.3>2, run 2.3>2")
	r.does(r.Drop(1), r.Twice(0))
	r.under("run 3.3>2, run 2.3>2, run 3.3>2")
	r.does(r.Spoil(1, 0))
	r.under("run 3.3>2, ?, run 3.3>2")
	r.does(r.Spoil(1, 0), r.Part(2))
	if r.Inject(request()) != 0 {
		t.Error("sent to a site that is cut off")
	}
	r.does(r.Heal(2), r.Hold(1, 1000), r.Hold(1, 0))
	r.stays(func() {
		for _, i := range []int{-1, 3, math.MaxInt} {
			for _, e := range []api.Errno{r.Drop(i), r.Twice(i), r.Move(i, 0), r.Hold(i, 0), r.Spoil(i, 0)} {
				is(t, "a packet that is none", e, api.ErrNone)
			}
			if m, ok := r.Packet(i); ok || !mess.Same(m, mess.Msg{}) {
				t.Error("Packet", i, m)
			}
		}
		for _, e := range []api.Errno{r.Move(0, 3), r.Move(0, -1), r.Hold(0, -1), r.Hold(0, 1001), r.Spoil(0, -1), r.Spoil(0, 1<<20)} {
			is(t, "what may not be done", e, api.ErrArg)
		}
		for _, node := range append(nowhere, 0) {
			is(t, "Part", r.Part(node), api.ErrArg)
			is(t, "Heal", r.Heal(node), api.ErrArg)
		}
	})
	for r.Packets() < usualConfig().Most {
		r.does(r.Twice(0))
	}
	is(t, "Twice", r.Twice(0), api.ErrFull)
	if r.Inject(request()) != 0 {
		t.Error("sent beyond the most")
	}
}

// P30.4: nodes that are none.
func TestNowhere(t *testing.T) {
	r := fresh(t)
	r.stays(func() {
		for _, node := range nowhere {
			for _, e := range []api.Errno{r.Crash(node), r.Crash(node, 1, 2), r.Start(node), r.Fuse(node, 0), r.Room(node, 0), r.Room(node, -1), r.Save(node)} {
				is(t, "no node", e, api.ErrArg)
			}
			if r.Up(node) || r.Free(node) != 0 || r.Site(node) != nil || r.Agent(node) != nil {
				t.Error("what there is of", node)
			}
		}
	})
}

// P30.4: Crash and Start.
func TestCrash(t *testing.T) {
	for node := range 4 {
		r := fresh(t)
		is(t, "Start", r.Start(node), api.ErrThere)
		r.does(r.Crash(node))
		if r.Up(node) || r.Site(node) != nil || r.Agent(node) != nil || (r.Coord() == nil) != (node == 0) || r.Free(node) != full {
			t.Error("it is up", node)
		}
		for range 2 {
			is(t, "Crash", r.Crash(node), api.ErrDown)
			is(t, "Save", r.Save(node), api.ErrDown)
		}
		r.does(r.Start(node))
		is(t, "Start", r.Start(node), api.ErrThere)
		for other := range 4 {
			if !r.Up(other) {
				t.Error("down with", node, "is", other)
			}
		}
		r.does(r.Save(node))
	}
}

// P30.4: what lasts: what was synced, and of the tails what is kept.
func TestKeeps(t *testing.T) {
	for _, x := range []struct {
		keeps []int
		rows  string
	}{{nil, "x 1||"}, {[]int{full}, "x 1, y 2||"}, {[]int{1}, "x 1||"}, {[]int{-5}, "x 1||"}, {[]int{0, full}, "x 1||"}} {
		r := fresh(t)
		r.sets(1, "put x 1")
		id := r.begin(1, "put y 2")
		r.does(r.Fuse(1, 1)) // it is written that it is committed, but not synced
		is(t, "Commit", r.Commit(1, id), api.ErrDown)
		if r.Up(1) || r.Site(1) != nil {
			t.Fatal("it is up")
		}
		is(t, "Commit", r.Commit(1, id), api.ErrDown)
		r.does(r.Crash(1, x.keeps...))
		is(t, "Crash", r.Crash(1), api.ErrDown) // not by its power any more
		r.does(r.Start(1))
		r.rows(x.rows)
		r.sets(1, "put v 3") // there is no fuse
	}
}

// P30.4: a node whose power failed is started from what was synced.
func TestStartByPower(t *testing.T) {
	r := fresh(t)
	r.sets(2, "put x 1")
	id := r.begin(2, "put y 2")
	r.does(r.Fuse(2, 1))
	is(t, "Commit", r.Commit(2, id), api.ErrDown)
	r.does(r.Start(2))
	r.rows("|x 1|")
	r.sets(2, "put v 3")
}

// P30.4: what was begun is gone when a node comes up again, and its agent begins anew.
func TestStartAnew(t *testing.T) {
	r := fresh(t, usual)
	r.does(r.Tick(1), r.Deliver(0))
	if l := r.Agent(1).Works(); len(l) != 1 || !l[0].Held {
		t.Fatal("Works", l)
	}
	r.begin(1)
	r.does(r.Crash(1), r.Start(1))
	if len(r.Agent(1).Works()) != 0 || len(r.Site(1).Opened()) != 0 || len(r.Site(1).Rows()) != 0 {
		t.Error("left", r.Agent(1).Works(), r.Site(1).Opened(), r.Site(1).Rows())
	}
	r.does(r.Drop(0))
	r.settle()
	r.does(r.Crash(0), r.Start(0))
	r.stands(1, committed, 3)
	r.rows("x 5||w 1")
}

// P30.4: an error of Start: the power fails while what is torn is taken away.
func TestStartRefused(t *testing.T) {
	for node := range 4 {
		r := fresh(t)
		tear := func() {
			t.Helper()
			r.does(r.Fuse(node, 1))
			if node == 0 {
				_, _, e := r.Submit(usual)
				is(t, "Submit", e, api.ErrDown)
			} else {
				id, e := r.Begin(node)
				is(t, "Begin", e, api.OK)
				r.Do(node, id, op("put x 1"))
				is(t, "Commit", r.Commit(node, id), api.ErrDown)
			}
			r.does(r.Crash(node, 5), r.Fuse(node, 0))
		}
		tear()
		for range 2 {
			is(t, "Start", r.Start(node), api.ErrDown)
			if r.Up(node) || r.Site(node) != nil || r.Agent(node) != nil || node == 0 && r.Coord() != nil {
				t.Error("it is up", node)
			}
			r.does(r.Start(node)) // its tape is what lasts
			tear()
		}
	}
}

// P30.4: Fuse, Room, Save.
func TestTape(t *testing.T) {
	for node := range 4 {
		r := fresh(t)
		change := func() api.Errno {
			if node == 0 {
				_, _, e := r.Submit(usual)
				return e
			}
			_, _, e := r.Site(node).Alone(op("add x 1"))
			return e
		}
		for range 5 {
			is(t, "a change", change(), api.OK)
		}
		used := full - r.Free(node)
		r.does(r.Save(node))
		if now := full - r.Free(node); now == 0 || node > 0 && now >= used {
			t.Error("nothing was saved", node, used, now)
		}
		r.stays(func() {
			for _, n := range []int{-1, math.MinInt, full + 1, math.MaxInt} {
				is(t, "Room", r.Room(node, n), api.ErrArg)
			}
		})
		r.does(r.Room(node, 3))
		if r.Free(node) != 0 {
			t.Error("Free", r.Free(node))
		}
		is(t, "without room", change(), api.ErrFull)
		is(t, "Save", r.Save(node), api.ErrFull)
		r.does(r.Room(node, full), r.Fuse(node, 0), r.Fuse(node, -1))
		is(t, "a change", change(), api.OK)
		r.does(r.Fuse(node, 0))
		if !r.Up(node) {
			t.Error("it is down ahead of any change")
		}
		is(t, "Save", r.Save(node), api.ErrDown)
		if r.Up(node) {
			t.Error("it is up")
		}
		is(t, "Save", r.Save(node), api.ErrDown)
		r.does(r.Fuse(node, -1), r.Room(node, 0))
		if r.Up(node) || r.Free(node) != 0 {
			t.Error("it is up")
		}
		r.does(r.Room(node, full), r.Start(node), r.Save(node))
	}
}

// P30.4: Save of a site with an open local transaction.
func TestSaveOpen(t *testing.T) {
	r := fresh(t)
	for node, want := range []api.Errno{api.OK, api.ErrState, api.ErrState, api.OK} {
		if node > 0 {
			r.begin(node)
		}
		is(t, "Save", r.Save(node), want)
	}
}

// P22.1: the agents' limit, and their works, as a world makes them.
func TestLimit(t *testing.T) {
	c := usualConfig()
	c.Limit = 2
	w, e := world.New(c)
	is(t, "New", e, api.OK)
	r := &rig{t, w}
	r.begin(1, "put x 1")
	r.submit(usual, 1)
	r.does(r.Tick(1), r.Deliver(0), r.Tick(1))
	if l := r.Agent(1).Works(); len(l) != 1 || l[0] != (agent.Work{About: mess.About{G: 1, Node: 1, Try: 1}, Id: 2, Done: 1}) {
		t.Fatal("Works", l)
	}
	r.fails("")
	r.does(r.Tick(1))
	r.fails("1.1!27")
}

// P1: whatever is asked, each call ends, and what is refused changes nothing.
func TestJunk(t *testing.T) {
	r := fresh(t, usual)
	r.does(r.Tick(1))
	numbers := []int{math.MinInt, -1 << 32, -1, 5, 1 << 20, 1 << 32, math.MaxInt}
	r.stays(func() {
		for _, a := range numbers {
			for _, b := range numbers {
				r.Move(a, b)
				r.Hold(a, b)
				r.Hold(0, min(a, -1))
				r.Spoil(a, b)
				r.Spoil(0, min(a, -1))
				r.Room(a, b)
				r.Fuse(a, b)
				r.Crash(a, b, a)
				r.Do(a, b, api.Op{Kind: a, Key: "\xff~", N: int64(b), Lo: int64(a)})
				r.Do(1, b, op("get x"))
				r.Commit(1, b)
				r.Abort(2, b)
				if n := r.Inject(mess.Msg{Kind: a, From: b, To: a, About: mess.About{G: a, Node: b, Try: a}, Low: b, Ops: make([]api.Op, 20)}); n != 0 {
					t.Error("Inject", n)
				}
			}
			r.Submit("\xff\x00\npath")
			r.Cancel(a)
		}
	})
}
