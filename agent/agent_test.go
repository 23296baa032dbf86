package agent_test

import (
	"fmt"
	"math"
	"slices"
	"testing"

	"byroad/agent"
	"byroad/api"
	"byroad/mess"
	"byroad/site"
)

// P22: of a nil agent, and of one that New has not made.
func TestNil(t *testing.T) {
	for _, a := range []*agent.Agent{nil, {}} {
		for _, s := range []string{"run 1.2/1@1 put x 5", "keep 1.2/1@1", "drop 1.2/0@7", "undo 1.2/1@1"} {
			for _, now := range []int64{-1, 0, 1} {
				if l := a.Handle(ask(t, s), now); len(l) != 0 {
					t.Error(s, l)
				}
				if l := a.Step(now); len(l) != 0 {
					t.Error("Step", l)
				}
			}
		}
		if len(a.Works()) != 0 || a.Low() != 0 || a.Site() != nil || a.Number() != 0 {
			t.Error(a.Works(), a.Low(), a.Site(), a.Number())
		}
	}
}

// P22.1
func TestNew(t *testing.T) {
	each(t, func(t *testing.T, kind int) {
		s := fresh(t, kind, 3).s
		for _, n := range []int{math.MinInt, -1, 0, 1, 3, 4, math.MaxInt} {
			for _, limit := range []int64{math.MinInt64, -1, 0, 1, 2, maxTime, maxTime + 1, math.MaxInt64} {
				if a, e := agent.New(n, nil, limit); a != nil || e != api.ErrNil {
					t.Error("over nothing", a, e)
				}
				a, e := agent.New(n, s, limit)
				if n < 1 || n > 3 || limit < 1 || limit > maxTime {
					if a != nil || e != api.ErrArg {
						t.Error(n, limit, a, e)
					}
					continue
				}
				if e != api.OK || a.Number() != n || a.Site() != s || a.Low() != 1 || len(a.Works()) != 0 {
					t.Error(n, limit, a, e)
				}
			}
		}
		if a, e := agent.New(2, s, 5); e != api.OK || a.Number() != 2 {
			t.Error(e)
		}
		if len(s.Rows()) != 0 || len(s.Opened()) != 0 || s.Next() != 1 {
			t.Error("New changes its site")
		}
	})
}

// P22.1: low is what the rows hold.
func TestNewLow(t *testing.T) {
	each(t, func(t *testing.T, kind int) {
		for _, n := range []int64{math.MinInt64, -1, 0, 1, 2, 77, 1<<20 + 1} {
			r := fresh(t, kind, 3)
			r.sets(api.Row{Key: "~g", N: n}, api.Row{Key: "g", N: 5}, api.Row{Key: "~gg", N: 6}, api.Row{Key: "~t", N: 7})
			r.anew(3)
			if want := max(int(n), 1); r.a.Low() != want {
				t.Error(n, "low is", r.a.Low())
			}
		}
		r := fresh(t, kind, 3)
		r.sets(api.Row{Key: "g", N: 5}, api.Row{Key: "~h", N: 6})
		r.client("put y 1")
		r.anew(3)
		if r.a.Low() != 1 {
			t.Error("low is", r.a.Low())
		}
	})
}

// P22.1: names.
func TestNames(t *testing.T) {
	for _, c := range []struct {
		g, node int
		want    string
	}{{1, 2, "1.2"}, {7, 0, "7.0"}, {1 << 20, 255, "1048576.255"}, {10, 10, "10.10"}} {
		if k, x, u := agent.KeptName(c.g, c.node), agent.DroppedName(c.g, c.node), agent.UndoneName(c.g, c.node); k != "k"+c.want || x != "x"+c.want || u != "u"+c.want {
			t.Error(c, k, x, u)
		}
	}
	for _, n := range []int{math.MinInt, -1, math.MaxInt} { // they end, and do not panic
		agent.KeptName(n, n)
		agent.DroppedName(n, n)
		agent.UndoneName(n, n)
	}
}

// The chapter's example.
func TestExample(t *testing.T) {
	each(t, func(t *testing.T, kind int) {
		r := fresh(t, kind, 3)
		r.on(0, "run 1.2/0@1 put x 5", "held 1.2/0 #1 [5]")
		r.on(0, "keep 1.2/0@1", "kept 1.2")
		r.on(0, "run 1.2/0@1 put x 5", "kept 1.2")
		r.on(0, "undo 1.2/0@1 back x -5", "undone 1.2")
		r.rows("x 0, ~k1.2 1, ~t 2, ~u1.2 1")
		r.works("")
		r.opened()
	})
}

// P22.2: what is no request to the agent, or comes at no time, changes nothing and is not answered.
func TestHandleRefused(t *testing.T) {
	each(t, func(t *testing.T, kind int) {
		r := fresh(t, kind, 3)
		var wrong []mess.Msg
		for _, to := range []int{-1, 0, 1, 3, 4} {
			m := ask(t, "run 9.2/1@9 put x 5")
			m.To = to
			wrong = append(wrong, m)
		}
		for _, change := range []func(m *mess.Msg){
			func(m *mess.Msg) { m.Low = 0 },
			func(m *mess.Msg) { m.Low = 1<<20 + 2 },
			func(m *mess.Msg) { m.G = 0 },
			func(m *mess.Msg) { m.Node = 256 },
			func(m *mess.Msg) { m.Kind = 5 },
			func(m *mess.Msg) { m.Kind = 0 },
			func(m *mess.Msg) { m.From = 1 },
			func(m *mess.Msg) { m.Code = 1 },
			func(m *mess.Msg) { m.Ops = make([]api.Op, 9) },
			func(m *mess.Msg) { m.Ops[0].Key = "~t" },
			func(m *mess.Msg) { m.Kind = mess.Keep },
		} {
			m := ask(t, "run 9.2/1@9 put x 5")
			change(&m)
			wrong = append(wrong, m)
		}
		for _, kind := range []int{mess.Held, mess.Failed, mess.Kept, mess.Lost, mess.Dropped, mess.Undone} {
			m := mess.Answer(ask(t, "drop 9.2/0@1"), kind)
			if kind == mess.Failed || kind == mess.Lost {
				m.Code = 1
			}
			wrong = append(wrong, m)
			m.From, m.To = 0, number
			wrong = append(wrong, m)
		}
		for _, m := range append(wrong, mess.Msg{}) {
			if l := r.a.Handle(m, 0); len(l) != 0 {
				t.Error(m, l)
			}
		}
		for _, now := range []int64{math.MinInt64, -1, maxTime + 1, math.MaxInt64} {
			r.on(now, "run 9.2/1@9 put x 5", "")
			r.on(now, "drop 9.2/0@9", "")
			r.on(now, "keep 9.2/1@9", "")
		}
		if r.a.Low() != 1 || r.s.Next() != 1 {
			t.Error("something was done")
		}
		r.works("")
		r.rows("")
		r.on(maxTime, "run 9.2/1@9 put x 5", "held 9.2/1 #1 [5]")
	})
}

// P22.3: Step at no time does nothing, nor does it of what is held.
func TestStepRefused(t *testing.T) {
	r := fresh(t, site.Locks, 3)
	id := r.client("put x 1")
	r.on(0, "run 1.2/1@1 put x 5", "")
	r.ends(id)
	for _, now := range []int64{math.MinInt64, -1, maxTime + 1, math.MaxInt64} {
		r.step(now, "")
		r.works("run 1.2/1 =2 1")
	}
	r.step(maxTime, "held 1.2/1 #1 [5]")
	r.step(maxTime, "")
	r.works("run 1.2/1 =2 3 held")
}

// P22.3, P22.4: by rising G, then node, whenever they were asked.
func TestOrder(t *testing.T) {
	r := fresh(t, site.Looks, 3)
	for i, s := range []string{"10.1", "9.3", "9.20", "2.0"} {
		r.on(0, "run "+s+"/1@1 add n 1", fmt.Sprintf("held %s/1 #%d [%d]", s, i+1, i+1))
		r.on(0, "keep "+s+"/1@1", "kept "+s)
	}
	l := r.fill()
	for _, s := range []string{"9.20", "10.1", "2.0", "9.3"} {
		r.on(0, "undo "+s+"/5@1 back n -1", "")
	}
	r.works("undo 2.0/5 =0 0, undo 9.3/5 =0 0, undo 9.20/5 =0 0, undo 10.1/5 =0 0")
	r.ends(l...)
	r.step(1, "undone 2.0, undone 9.3, undone 9.20, undone 10.1")
	if r.s.Ticket() != 8 {
		t.Error("ticket", r.s.Ticket())
	}
	r.works("")

	r = fresh(t, site.Locks, 30)
	r.sets(api.Row{Key: "~k2.2", N: 1}, api.Row{Key: "~k9.1", N: 1})
	client := r.client("get ~t") // none has a ticket, so all wait
	for _, s := range []string{"run 9.2/4", "run 10.1/3", "undo 9.1/2", "run 9.10/7", "undo 2.2/1"} {
		r.on(0, s+"@1 put n 1", "")
	}
	r.works("undo 2.2/1 =7 0, undo 9.1/2 =5 0, run 9.2/4 =3 0, run 9.10/7 =6 0, run 10.1/3 =4 0")
	r.ends(client)
	r.step(1, "held 9.2/4 #1 [1]") // it stood first in the row; the others wait for it
	r.works("undo 2.2/1 =7 0, undo 9.1/2 =5 0, run 9.2/4 =3 3 held, run 9.10/7 =6 0, run 10.1/3 =4 0")
}

// P22.3, P22.4: runs ahead of undos. (Only somebody who marks a node that is under way brings both about.)
func TestRunAheadOfUndo(t *testing.T) {
	r := fresh(t, site.Locks, 5)
	r.client("put x 1")
	r.on(0, "run 3.1/7@1 put x 5", "")
	r.sets(api.Row{Key: "~k3.1", N: 1})
	r.on(0, "undo 3.1/8@1 put y 5", "")
	r.works("run 3.1/7 =2 1, undo 3.1/8 =4 0")
	r.step(4, "")
	r.works("run 3.1/7 =2 1, undo 3.1/8 =4 0")
	r.step(5, "failed 3.1/7 !27, undone 3.1") // the undo waited for the run's ticket
	r.works("")
}

// P22.2: Told and Ops: rules 4 and 5.
func TestLists(t *testing.T) {
	r := fresh(t, site.Locks, 9)
	id := r.client("put x 1")
	m := ask(t, "run 1.2/1@1 add y 5; add x 5; add y 5")
	if l := r.a.Handle(m, 0); len(l) != 0 {
		t.Fatal(l)
	}
	m.Ops[1].N, m.Ops[2].Key = 100, "z"
	r.ends(id)
	for range 3 {
		l := r.a.Step(1)
		if len(l) == 0 {
			l = r.a.Handle(ask(t, "run 1.2/1@1"), 2)
		}
		if s := r.says(l); s != "held 1.2/1 #1 [5 5 10]" {
			t.Fatal(s)
		}
		l[0].Told[0] = 77
		l[0].Told = append(l[0].Told[:1], 78)
	}
	w := r.a.Works()
	w[0].Node, w[0].Held = 7, false
	r.works("run 1.2/1 =2 5 held")
	r.on(3, "keep 1.2/1@1", "kept 1.2")
	r.rows("x 5, y 10, ~k1.2 1, ~t 1")
	m = ask(t, "undo 1.2/1@1 back x -5; back y -10")
	want := slices.Clone(m.Ops)
	if s := r.says(r.a.Handle(m, 0)); s != "undone 1.2" || !slices.Equal(m.Ops, want) {
		t.Error(s, m)
	}
}
