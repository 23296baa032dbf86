package coord_test

import (
	"fmt"
	"math/rand"
	"slices"
	"strings"
	"testing"

	"byroad/api"
	"byroad/coord"
	"byroad/mess"
	"byroad/plan"
	"byroad/tape"
)

// life is a manager and its model, from one loss of power to the next one.
type life struct {
	*rig
	r      *rand.Rand
	m      *model
	now    int64
	before *model // what lasted ahead of the call
	seen   map[string]int
	told   map[int]string // what was answered to clients: over or cancelled
}

// texts are flexible transactions of several kinds; some are none.
func texts() []string {
	return []string{usual, subs + "a b\npath a c\npath e", subs + "d e a\npath d c", subs + "c", subs + "d", subs + "a e\npath d", subs + "b c\npath b d",
		subs + "e a d\npath e b\npath a d\npath c d", subs + "e", subs + "b a", subs + "a\npath a b", subs + "f", ""}
}

// answerOf is some reply, most often one that fits an open request.
func (l *life) answerOf() mess.Msg {
	kinds := []int{mess.Held, mess.Held, mess.Held, mess.Kept, mess.Kept, mess.Kept, mess.Failed, mess.Lost, mess.Dropped, mess.Undone}
	var open []mess.Msg
	for _, j := range l.m.jobs {
		if j.q != nil {
			open = append(open, *j.q)
		}
	}
	if len(open) == 0 {
		return mess.Msg{Kind: mess.Kept, From: 1, About: mess.About{G: 1, Node: 1}}
	}
	q := open[l.r.Intn(len(open))]
	if l.r.Intn(3) == 0 {
		q = open[0]
	}
	m := answer(q, kinds[l.r.Intn(len(kinds))])
	switch l.r.Intn(30) {
	case 0:
		m.Node++
	case 1:
		m.G++
	case 2:
		m.From = m.From%3 + 1
	case 3:
		m.Try++
	}
	return m
}

// sends fails the test, if two lists of messages are not the same, or what is sent may not be sent by P29.7 and P29.8.
func (l *life) sends(what string, got, want []mess.Msg) {
	l.t.Helper()
	if l.k.Down() {
		return // what lasts is told when it is opened again
	}
	if !slices.EqualFunc(got, want, mess.Same) {
		l.t.Fatal(what, says(l.t, got...), "not", says(l.t, want...))
	}
	for _, q := range got {
		j := l.m.find(q.G)
		sub, _ := j.p.Sub(q.Node)
		next := j.p.Next(j.s)
		kinds := map[int]string{plan.Run: "run keep drop", plan.Drop: "drop", plan.Undo: "undo"}
		l.seen[words()[q.Kind]]++
		if next.Node != q.Node || !strings.Contains(kinds[next.Kind], words()[q.Kind]) || q.To != sub.Site+1 {
			l.t.Fatal("not as planned", says(l.t, q), next)
		}
		if q.Kind == mess.Run && !l.m.first(q.G, sub.Site) {
			l.t.Fatal("out of order", says(l.t, q))
		}
	}
}

// submit does some Submit of both.
func (l *life) submit() {
	text := texts()[l.r.Intn(len(texts()))]
	wantG, wantAt, want := l.m.submit(text)
	g, at, e := l.c.Submit(text)
	l.seen[fmt.Sprint("submit ", e)]++
	if e == api.ErrDown && (want == api.OK || want == api.ErrFull) {
		wantG, want = 0, e
	}
	if g != wantG || at != wantAt || e != want {
		l.t.Fatal("Submit", g, at, e, "not", wantG, wantAt, want)
	}
}

// cancel does some Cancel of both.
func (l *life) cancel() {
	g := l.r.Intn(l.m.next + 1)
	want := l.m.cancel(g)
	e := l.c.Cancel(g)
	l.seen[fmt.Sprint("cancel ", e)]++
	if e != want && (e != api.ErrDown || want != api.OK && want != api.ErrFull) {
		l.t.Fatal("Cancel", g, e, "not", want)
	}
	if e == api.OK {
		l.told[g] = "cancelled"
	}
}

// call does something of both.
func (l *life) call() {
	l.before, l.m.trail = l.m.lasting(), nil
	switch n := l.r.Intn(40); {
	case n == 0:
		l.roomy()
		l.m.full = false
		if e := l.c.Save(); e != api.OK {
			is(l.t, "Save", e, api.ErrDown)
		}
	case n == 1 && l.r.Intn(2) == 0:
		l.full()
		l.m.full = true
	case n < 3:
		l.roomy()
		l.m.full = false
	case n < 5:
		l.submit()
	case n < 7:
		l.cancel()
	case n < 13:
		l.now += int64(l.r.Intn(4))
		now := l.now
		if l.r.Intn(20) == 0 {
			now = []int64{-1, maxTime + 1}[l.r.Intn(2)]
		}
		l.sends("Tick", l.c.Tick(now), l.m.tick(now))
	default:
		r := l.answerOf()
		got, want := l.c.Handle(r, l.now), l.m.handle(r, l.now)
		l.sends(words()[r.Kind], got, want)
	}
}

// same fails the test, if the manager does not tell what the model does.
func (l *life) same() {
	l.t.Helper()
	want := l.m.lasts()
	for _, j := range l.m.jobs {
		if j.q != nil {
			want += says(l.t, *j.q) + "\n"
		}
	}
	if got := tells(l.t, l.c); got != want {
		l.t.Fatal("tells", got, "not", want)
	}
	l.stand()
}

// stand fails the test, if what was answered to clients does not stand (P29.6).
func (l *life) stand() {
	l.t.Helper()
	for g := 1; g < l.m.next; g++ {
		x, e := l.c.Status(g)
		was := l.told[g]
		switch {
		case e == api.ErrNone && g >= l.m.next-64, was == "cancelled" && x.Outcome == 1:
			l.t.Fatal("does not stand:", g, x, e)
		case was != "" && was != "cancelled" && e == api.OK && was != fmt.Sprint(x):
			l.t.Fatal("does not stand:", g, x, was)
		case x.Outcome != 0:
			l.told[g] = fmt.Sprint(x)
			l.seen[fmt.Sprint("outcome ", x.Outcome)]++
		}
	}
}

// fail lets the power fail, also while the manager is opened again, and goes on with what lasts.
func (l *life) fail() {
	l.t.Helper()
	var keeps []int
	for range len(l.k.Segs()) {
		keeps = append(keeps, l.r.Intn(200)-3)
	}
	x := l.k.Crash(keeps...)
	x.Fuse(l.r.Intn(3))
	if _, e := coord.Open(x, 200, l.m.every); e != api.OK {
		is(l.t, "Open", e, api.ErrDown)
		x = x.Crash()
	}
	x.Fuse(-1)
	x.Room(api.MaxDisk)
	l.k = x
	for range 2 {
		var e api.Errno
		l.c, e = coord.Open(x, 200, l.m.every)
		is(l.t, "Open", e, api.OK)
		l.lasts()
	}
}

// lasts fails the test, if what a manager tells is not what may be there behind the loss of power; else that is the model from now on.
func (l *life) lasts() {
	l.t.Helper()
	got := lasting(l.c)
	for i, m := range append(l.m.trail, l.before) {
		if m.lasts() == got {
			l.seen[fmt.Sprint("lasts ", i < len(l.m.trail))]++
			l.before, l.m = m, m.lasting()
			return
		}
	}
	l.t.Fatal("lasts", got, "not", l.before.lasts(), len(l.m.trail))
}

// P29.1 to P29.8: anything is done, till the power fails at some change of the tape, again and again on one tape.
func TestLives(t *testing.T) {
	seen := map[string]int{}
	for seed := range 60 {
		r := rand.New(rand.NewSource(int64(seed)))
		k, _ := tape.New(api.MaxDisk)
		every := int64(1 + r.Intn(4))
		l := &life{rig: &rig{t: t, k: k}, r: r, m: &model{every: every, next: 1}, seen: seen, told: map[int]string{}}
		var e api.Errno
		l.c, e = coord.Open(k, 200, every)
		is(t, "Open", e, api.OK)
		for range 4 {
			l.k.Fuse(r.Intn(150))
			for range 300 {
				l.call()
				if l.k.Down() {
					break
				}
				l.same()
			}
			if !l.k.Down() {
				l.before, l.m.trail = l.m.lasting(), nil
			}
			l.fail()
		}
	}
	for _, name := range []string{"run", "keep", "drop", "undo", "submit 0", "submit 5", "submit 6", "submit 8", "submit 40", "submit 42", "submit 43",
		"cancel 0", "cancel 3", "cancel 5", "cancel 8", "cancel 44", "outcome 1", "outcome 2", "lasts true", "lasts false"} {
		if seen[name] == 0 {
			t.Error("never seen:", name, seen)
		}
	}
}
