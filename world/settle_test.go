package world_test

import (
	"math"
	"testing"

	"byroad/api"
	"byroad/mess"
	"byroad/world"
)

// P30.5: rounds that may not be.
func TestSettleRefused(t *testing.T) {
	r := fresh(t, usual)
	r.does(r.Part(1), r.Crash(2))
	r.begin(3)
	l, _ := r.List()
	for _, rounds := range []int{math.MinInt, -1, 4097, 1<<32 + 1, math.MaxInt} {
		if n, e := r.Settle(rounds); n != 0 || e != api.ErrArg {
			t.Error("Settle", rounds, n, e)
		}
	}
	if r.Up(2) || r.Now() != 0 || len(r.Site(3).Opened()) != 1 || len(l) != 1 {
		t.Error("something was changed")
	}
}

// P30.5: how many rounds there are: none, if nobody is active; else as many as it takes, at most as many as were asked.
func TestSettleRounds(t *testing.T) {
	settles := func(r *rig, rounds, want int) {
		t.Helper()
		now := r.Now()
		if n, e := r.Settle(rounds); n != want || e != api.OK || r.Now() != now+int64(want) {
			t.Fatal("Settle", rounds, n, e, r.Now()-now, "not", want)
		}
	}
	r := fresh(t)
	settles(r, 4096, 0)
	r.submit(usual, 1)
	settles(r, 0, 0)
	r.under("")
	settles(r, 1, 1)
	r.stands(1, committed, 3)
	settles(r, 1, 0)
	r.submit(subs+"d\npath c", 2)
	r.does(r.Tick(1), r.Deliver(0), r.Abort(3, r.Agent(3).Works()[0].Id))
	r.under("held 2.1>0")
	settles(r, 2, 2) // it is lost, and waits till it is tried again
	r.stands(2, running, 0)
	settles(r, 4096, 2)
	r.stands(2, committed, 1)
}

// P30.5: in a fair time nothing is in the way any more.
func TestSettleMends(t *testing.T) {
	r := fresh(t, subs+"e c d\npath c", subs+"b")
	r.does(r.Tick(1))
	r.under("run 1.1>1, run 2.1>2")
	r.does(r.Hold(0, 500), r.Hold(1, 900))
	for node := 1; node <= 3; node++ {
		r.does(r.Part(node))
	}
	for node := 1; node <= 3; node++ {
		r.begin(node, "put x 9", "put u 9", "put w 9")
	}
	r.does(r.Crash(2), r.Fuse(0, 0), r.Fuse(1, 3), r.Fuse(2, 0))
	n, e := r.Settle(0)
	is(t, "Settle", e, api.OK)
	for node := range 4 {
		if !r.Up(node) || n != 0 {
			t.Error("down", node, n)
		}
		if node > 0 && len(r.Site(node).Opened()) != 0 {
			t.Error("open", node)
		}
	}
	for range 2 {
		r.does(r.Deliver(0))
	}
	r.under("held 1.1>0, failed 2.1>0")
	r.settle()
	r.rows("u 1||v 1, w 1")
	r.stands(1, committed, 3)
}

// P30.5: what is an agent's work is not aborted, be it held or not.
func TestSettleKeepsWorks(t *testing.T) {
	r := fresh(t, subs+"e", subs+"c")
	locks := r.begin(1, "put u 7")
	r.does(r.Tick(1), r.Deliver(0), r.Deliver(0))
	r.under("held 2.1>0")
	n, e := r.Settle(0)
	is(t, "Settle", e, api.OK)
	if _, e := r.Do(1, locks, op("get u")); e != api.ErrNone || n != 0 {
		t.Error("the client's is open still", e, n)
	}
	for node, held := range map[int]bool{1: false, 3: true} {
		l, open := r.Agent(node).Works(), r.Site(node).Opened()
		if len(l) != 1 || len(open) != 1 || l[0].Id != open[0] || l[0].Held != held {
			t.Error("works", node, l, open)
		}
	}
	r.settle()
	r.fails("")
	r.rows("u 1||w 1")
}

// P30.5: nodes that lost their power are started, also where a fuse is in the way of that; but what does not lie in power alone is passed over.
func TestSettleStarts(t *testing.T) {
	for node := range 4 {
		r := fresh(t, subs+"e")
		r.does(r.Fuse(node, 1))
		if node == 0 {
			r.Submit(usual)
		} else {
			r.Site(node).Alone(op("put x 1"))
		}
		r.does(r.Crash(node, 5), r.Fuse(node, 0)) // what is torn is to be taken away
		r.settleDown()
		if !r.Up(node) {
			t.Error("down", node)
		}
		r.stands(1, committed, 1)
		r.does(r.Fuse(node, 0))
		r.Save(node)
		r.settleDown()
		if !r.Up(node) {
			t.Error("down by its power", node)
		}
	}
}

// settleDown lets a fair time go by, also where the manager is down.
func (r *rig) settleDown() {
	r.t.Helper()
	n, e := r.Settle(100)
	is(r.t, "Settle", e, api.OK)
	if l, e := r.List(); len(l) > 0 || e != api.OK || n == 100 {
		r.t.Fatal("active still", l, e, n)
	}
}

// P30.5: packets that are none, or go to nobody, keep no round from going on.
func TestSettlePackets(t *testing.T) {
	r := fresh(t, usual)
	r.does(r.Tick(1), r.Twice(0), r.Twice(0), r.Spoil(0, 3), r.Spoil(2, 4))
	r.under("?, run 1.1>1, ?")
	for range 20 {
		r.Inject(mess.Msg{Kind: mess.Kept, From: 3, About: mess.About{G: 9, Node: 9}})
	}
	if n, e := r.Settle(50); n != 1 || e != api.OK || r.Packets() != 0 {
		t.Error("Settle", n, e, r.way())
	}
	r.stands(1, committed, 3)
}

// P30.6: Bound.
func TestBound(t *testing.T) {
	c := usualConfig()
	for _, every := range []int64{1, 3, 1000} {
		c.Every = every
		w, e := world.New(c)
		is(t, "New", e, api.OK)
		r := &rig{t, w}
		bound := func(want int) {
			t.Helper()
			if got := r.Bound(); got != min(want, 4096) {
				t.Error("Bound", every, got, "not", want)
			}
		}
		wait := int(every) + 2
		bound(10 * wait)
		r.submit(subs+"e", 1)
		bound(2 * 18 * wait)
		r.submit(usual, 2)
		bound(3 * 26 * wait)
		r.submit(subs+"c", 3)
		bound(4 * 26 * wait)
		r.settle()
		bound(10 * wait)
		r.does(r.Crash(0))
		if r.Bound() != 0 {
			t.Error("Bound", r.Bound())
		}
	}
}
