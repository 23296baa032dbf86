package world_test

import (
	"math"
	"testing"

	"byroad/api"
	"byroad/book"
	"byroad/mess"
	"byroad/world"
)

// The chapter's example.
func TestExample(t *testing.T) {
	r := fresh(t)
	r.submit("sub a 0 comp add x 5 | back x -5\nsub b 1 pivot put z 3\nsub c 2 retry put w 1\npath a b\npath a c", 1)
	if n, e := r.Settle(50); n != 1 || e != api.OK {
		t.Error("Settle", n, e)
	}
	r.stands(1, committed, 2)
	r.rows("x 5|z 3|")
	if len(r.Site(1).Names("")) != 1 || r.Site(1).Ticket() != 1 || r.Site(2).Ticket() != 1 {
		t.Error("tickets and marks", r.Site(1).Rows(), r.Site(2).Rows())
	}
}

// Of a nil world, and of one that New has not made.
func TestNil(t *testing.T) {
	for _, w := range []*world.World{nil, {}} {
		g, at, e := w.Submit(usual)
		x, status := w.Status(1)
		l, list := w.List()
		if g != 0 || at != 0 || x.G != 0 || len(l) != 0 {
			t.Error("beside an error", g, at, x, l)
		}
		errs := []api.Errno{e, status, list, w.Cancel(1), w.Tick(1), w.Tick(0), w.Deliver(0), w.Drop(0), w.Twice(0), w.Move(0, 0), w.Hold(0, 0), w.Spoil(0, 0)}
		for _, node := range []int{-1, 0, 1, 3, 4} {
			id, begin := w.Begin(node)
			n, do := w.Do(node, 1, op("get x"))
			_, wrong := w.Do(node, 1, api.Op{})
			if id != 0 || n != 0 {
				t.Error("beside an error", id, n)
			}
			errs = append(errs, begin, do, wrong, w.Commit(node, 1), w.Abort(node, 1), w.Part(node), w.Heal(node))
			errs = append(errs, w.Crash(node), w.Crash(node, 1, 2), w.Start(node), w.Fuse(node, 1), w.Room(node, 1), w.Save(node))
			if w.Up(node) || w.Site(node) != nil || w.Agent(node) != nil || w.Free(node) != 0 {
				t.Error("a node", node)
			}
		}
		for _, rounds := range []int{-1, 0, 1, 5000} {
			n, e := w.Settle(rounds)
			if errs = append(errs, e); n != 0 {
				t.Error("rounds", n)
			}
		}
		for i, e := range errs {
			if e != api.ErrNil {
				t.Error("call", i, e)
			}
		}
		if m, ok := w.Packet(0); ok || !mess.Same(m, mess.Msg{}) {
			t.Error("Packet", m, ok)
		}
		if w.Inject(request()) != 0 || w.Now() != 0 || w.Packets() != 0 || w.Bound() != 0 || w.Coord() != nil || len(w.Fails()) != 0 || len(w.Tickets()) != 0 {
			t.Error("what there is")
		}
	}
}

// request is some message that may be.
func request() mess.Msg {
	return mess.Msg{Kind: mess.Run, To: 2, About: mess.About{G: 7, Node: 3, Try: 1}, Low: 1, Ops: []api.Op{op("put x 5")}}
}

// P30.1: the edges of a config.
func TestCheck(t *testing.T) {
	type set func(c *world.Config, n int64)
	for name, x := range map[string]struct {
		set    set
		lo, hi int64
	}{
		"Seg":   {func(c *world.Config, n int64) { c.Seg = int(n) }, 16, api.MaxDisk},
		"Every": {func(c *world.Config, n int64) { c.Every = n }, 1, 1000},
		"Limit": {func(c *world.Config, n int64) { c.Limit = n }, 1, maxTime},
		"Most":  {func(c *world.Config, n int64) { c.Most = int(n) }, 1, 1024},
		"Room":  {func(c *world.Config, n int64) { c.Room = int(n) }, 0, api.MaxDisk},
	} {
		for n, want := range map[int64]api.Errno{
			x.lo: api.OK, x.lo + 1: api.OK, x.hi: api.OK, x.lo - 1: api.ErrArg, x.hi + 1: api.ErrArg, math.MinInt64: api.ErrArg, math.MaxInt64: api.ErrArg,
			-x.hi: api.ErrArg, 1<<33 + x.lo: map[bool]api.Errno{true: api.OK, false: api.ErrArg}[x.hi == maxTime],
		} {
			c := usualConfig()
			x.set(&c, n)
			w, e := world.New(c)
			if c.Check() != want || e != want || (w != nil) != (want == api.OK) {
				t.Error(name, n, c.Check(), e, "not", want)
			}
		}
	}
	if e := (world.Config{}).Check(); e != api.ErrArg {
		t.Error("nothing", e)
	}
}

// P30.1, P30.6: what there is in a new world.
func TestNew(t *testing.T) {
	c := world.Config{Seg: 16, Every: 4, Limit: 1, Most: 1, Room: 700}
	w, e := world.New(c)
	is(t, "New", e, api.OK)
	l, e := w.List()
	if w.Now() != 0 || w.Packets() != 0 || len(l) != 0 || e != api.OK || len(w.Fails()) != 0 || len(w.Tickets()) != 0 || w.Bound() != 60 {
		t.Error(tells(w))
	}
	for node := -2; node < 6; node++ {
		there, site := node >= 0 && node <= 3, node >= 1 && node <= 3
		if w.Up(node) != there || (w.Site(node) != nil) != site || (w.Agent(node) != nil) != site {
			t.Error("node", node, w.Up(node), w.Site(node), w.Agent(node))
		}
		if site && (w.Site(node).Kind() != node-1 || w.Agent(node).Number() != node || w.Agent(node).Site() != w.Site(node)) {
			t.Error("kind", node, w.Site(node).Kind(), w.Agent(node).Number())
		}
		if free := map[bool]int{true: 700}[there]; w.Free(node) != free {
			t.Error("Free", node, w.Free(node))
		}
	}
	if w.Coord() == nil || w.Coord().Next() != 1 {
		t.Error("Coord")
	}
	c.Room = 0
	if w, e = world.New(c); e != api.OK || !w.Up(0) || !w.Up(3) {
		t.Error("without room", e)
	}
}

// P30.2: what clients ask the manager.
func TestManager(t *testing.T) {
	r := fresh(t, usual)
	refused := func(text string, at int, want api.Errno) {
		t.Helper()
		if g, where, e := r.Submit(text); g != 0 || where != at || e != want {
			t.Error("Submit", g, where, e, "not", at, want)
		}
	}
	r.stays(func() {
		refused(usual+"\npath f", 7, api.ErrName)
		refused(subs+"b a", 1, api.ErrStuck)
		refused("sub a 0 retry add x 1\npath a", 0, api.ErrType)
		for _, g := range []int{-1, 0, 2, math.MaxInt} {
			x, e := r.Status(g)
			if e != api.ErrNone || x.G != 0 || r.Cancel(g) != api.ErrNone {
				t.Error("nobody", g, x, e)
			}
		}
	})
	r.submit(usual, 2)
	if l, e := r.List(); len(l) != 2 || l[0] != 1 || l[1] != 2 || e != api.OK {
		t.Error("List", l, e)
	}
	r.does(r.Cancel(2))
	if x, e := r.Status(2); !x.Cancel || e != api.OK {
		t.Error("Status", x, e)
	}
	for _, down := range []func(){func() { r.does(r.Crash(0)) }, func() { r.does(r.Start(0), r.Fuse(0, 0)); r.Submit(usual) }} {
		down()
		g, at, e := r.Submit("nonsense")
		x, status := r.Status(1)
		l, list := r.List()
		if g != 0 || at != 0 || x.G != 0 || len(l) != 0 {
			t.Error("beside an error", g, at, x, l)
		}
		for _, e := range []api.Errno{e, status, list, r.Cancel(1), r.Cancel(99)} {
			is(t, "a manager that is down", e, api.ErrDown)
		}
		if r.Coord() != nil || r.Bound() != 0 || r.Up(0) {
			t.Error("it is up")
		}
	}
	r.does(r.Start(0))
	r.stands(1, running, 0)
	if x, e := r.Status(2); !x.Cancel || e != api.OK || x.Outcome != book.Running {
		t.Error("Status", x, e)
	}
}

// P30.2: a site's clients.
func TestClient(t *testing.T) {
	for node := 1; node <= 3; node++ {
		r := fresh(t)
		id := r.begin(node, "put x 5", "add x 2")
		n, e := r.Do(node, id, op("get x"))
		if n != 7 || e != api.OK {
			t.Error("Do", n, e)
		}
		n, e = r.Do(node, id, op("min x -8 0"))
		if n != 0 || e != api.ErrGuard {
			t.Error("Do", n, e)
		}
		other := r.begin(node)
		r.does(r.Commit(node, id), r.Abort(node, other))
		for _, id := range []int{id, other} {
			_, e = r.Do(node, id, op("get x"))
			for _, e := range []api.Errno{e, r.Commit(node, id), r.Abort(node, id)} {
				is(t, "an ended one", e, api.ErrNone)
			}
		}
		rows := r.Site(node).Rows()
		if len(rows) != 1 || rows[0] != (api.Row{Key: "x", N: 7}) {
			t.Error("rows", rows)
		}
		for range api.MaxOpen {
			r.begin(node)
		}
		if id, e := r.Begin(node); id != 0 || e != api.ErrFull {
			t.Error("Begin", id, e)
		}
	}
}

// P30.2: what a client may not ask, the first error first.
func TestClientRefused(t *testing.T) {
	r := fresh(t)
	wrong := []api.Op{{}, {Kind: api.Put, Key: "~t", N: 1}, {Kind: api.Get, Key: "~k1.1"}, {Kind: api.Get, Key: "x", N: 1}, {Kind: 7, Key: "x"}, {Kind: api.Get}}
	ids := []int{math.MinInt, -1, 0, 99, math.MaxInt}
	asks := func(node, id int, wrongs, rights, begins, aborts api.Errno) {
		t.Helper()
		for _, o := range wrong {
			_, e := r.Do(node, id, o)
			is(t, "Do of what may not be asked", e, wrongs)
		}
		_, e := r.Do(node, id, op("get x"))
		is(t, "Do", e, rights)
		is(t, "Commit", r.Commit(node, id), rights)
		is(t, "Abort", r.Abort(node, id), aborts)
		if begins != api.OK {
			_, e := r.Begin(node)
			is(t, "Begin", e, begins)
		}
	}
	for _, id := range ids {
		for _, node := range []int{math.MinInt, -1, 0, 4, math.MaxInt} {
			asks(node, id, api.ErrArg, api.ErrArg, api.ErrArg, api.ErrArg)
		}
		asks(2, id, api.ErrArg, api.ErrNone, api.OK, api.ErrNone)
	}
	id := r.begin(2)
	r.does(r.Crash(2))
	asks(2, id, api.ErrDown, api.ErrDown, api.ErrDown, api.ErrDown)
	r.does(r.Start(2))
	asks(2, id, api.ErrArg, api.ErrNone, api.OK, api.ErrNone)
}

// P30.2: whoever did not begin it since the node came up may not ask anything of a local transaction, but abort it.
func TestNotBegun(t *testing.T) {
	for node := 1; node <= 3; node++ {
		r := fresh(t)
		client := r.begin(node)
		r.does(r.Crash(node), r.Start(node))
		r.Inject(mess.Msg{Kind: mess.Run, To: node, About: mess.About{G: 1, Node: 1, Try: 1}, Low: 1, Ops: []api.Op{op("put x 5")}})
		r.does(r.Deliver(0))
		id := r.Agent(node).Works()[0].Id
		if id != client {
			t.Fatal("the agent's is another one", id, client)
		}
		_, e := r.Do(node, id, op("get x"))
		is(t, "Do", e, api.ErrNone)
		is(t, "Commit", r.Commit(node, id), api.ErrNone)
		r.does(r.Abort(node, id))
		if l := r.Site(node).Opened(); len(l) != 0 {
			t.Error("Opened", l)
		}
		is(t, "Abort", r.Abort(node, id), api.ErrNone)
	}
}
