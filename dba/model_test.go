package dba_test

import (
	"fmt"
	"math"
	"math/rand"
	"slices"
	"testing"

	"byroad/api"
	"byroad/cells"
	"byroad/dba"
	"byroad/ops"
	"byroad/tape"
	"byroad/wait"
)

// step is an operation that was done, and what it answered.
type step struct {
	op api.Op
	n  int64
	e  api.Errno
}

// life is a site from one loss of power to the next one, and what it must come to by what was answered.
type life struct {
	t      *testing.T
	r      *rand.Rand
	k      *tape.Tape
	d      *dba.Db
	rows   *cells.Cells   // those that the committed ones make, one by one
	maybe  *cells.Cells   // and also the one whose Commit was under way
	steps  map[int][]step // of each one that goes on
	serial []int
	seen   map[string]int
}

// anyOp is some operation on one of a few keys.
func anyOp(r *rand.Rand) api.Op {
	x := api.Op{Kind: api.Get + r.Intn(6), Key: []string{"a", "b", "c", "d", "~t"}[r.Intn(5)]}
	switch x.Kind {
	case api.Put, api.Add, api.Back:
		x.N = []int64{0, 1, -1, 5, math.MaxInt64, math.MinInt64}[r.Intn(6)]
	case api.Min:
		x.N, x.Lo = int64(r.Intn(7)-4), int64(r.Intn(3))
	}
	return x
}

// with is rows, and what one does with them one by one; each operation must tell what it told.
func (l *life) with(steps []step) *cells.Cells {
	c := l.rows.Copy()
	for _, s := range steps {
		n, there := c.Get(s.op.Key)
		n, there, told, e := ops.Eval(s.op, n, there)
		if told != s.n || e != s.e {
			l.t.Fatal(s.op, "told", s.n, s.e, "and not", told, e)
		}
		if e == api.OK {
			is(l.t, "Apply", c.Apply(cells.Change{Key: s.op.Key, N: n, There: there}), api.OK)
		}
	}
	return c
}

// do does some operation in a transaction. Victims are gone by it.
func (l *life) do(id int) api.Errno {
	x := anyOp(l.r)
	n, e := l.d.Do(id, x)
	l.seen[fmt.Sprint("Do ", e)]++
	switch e {
	case api.OK, api.ErrGuard, api.ErrOver:
		l.steps[id] = append(l.steps[id], step{x, n, e})
	case api.ErrVictim:
		if _, there := l.steps[id]; !there || slices.Contains(l.d.Opened(), id) {
			l.t.Fatal(id, "is still open")
		}
	case api.ErrBusy, api.ErrState, api.ErrFull, api.ErrDown:
		if n != 0 {
			l.t.Fatal(n, e)
		}
	default:
		l.t.Fatal(x, e)
	}
	for who := range l.steps {
		if !slices.Contains(l.d.Opened(), who) {
			if who != id {
				l.seen["another victim"]++
			}
			delete(l.steps, who)
		}
	}
	return e
}

// commit ends a transaction.
func (l *life) commit(id int) api.Errno {
	with := l.with(l.steps[id])
	e := l.d.Commit(id)
	l.seen[fmt.Sprint("Commit ", e)]++
	switch e {
	case api.OK:
		l.rows = with
		l.serial = append(l.serial, id)
		delete(l.steps, id)
	case api.ErrDown:
		l.maybe = with
	default:
		is(l.t, "Commit", e, api.ErrFull)
		delete(l.steps, id)
	}
	return e
}

// call does something.
func (l *life) call() api.Errno {
	opened := l.d.Opened()
	switch n := l.r.Intn(20); {
	case len(opened) < 4 && n < 6:
		id, e := l.d.Begin()
		l.steps[id] = nil
		return e
	case n == 6 || n == 7 && len(opened) == 0:
		e := l.d.Save()
		if (e == api.ErrState) != (len(opened) > 0) {
			l.t.Fatal("Save", e, opened)
		}
		l.seen[fmt.Sprint("Save ", e)]++
		return e
	case len(opened) == 0:
		return api.OK
	case n == 8:
		id := opened[l.r.Intn(len(opened))]
		delete(l.steps, id)
		return l.d.Abort(id)
	case n == 9:
		return l.k.Room(l.k.Used() + l.r.Intn(200))
	case n < 13:
		return l.commit(opened[l.r.Intn(len(opened))])
	}
	return l.do(opened[l.r.Intn(len(opened))])
}

// check holds what the site tells against what it must.
func (l *life) check() {
	l.t.Helper()
	if got := l.d.Rows(); !slices.Equal(got, l.rows.Rows()) {
		l.t.Fatal("rows", got, "not", l.rows.Rows())
	}
	if got := l.d.Serial(); !slices.Equal(got, l.serial) {
		l.t.Fatal("serial", got, "not", l.serial)
	}
	if len(l.d.Opened()) != len(l.steps) {
		l.t.Fatal("opened", l.d.Opened(), "not", l.steps)
	}
	if c := wait.Circles(l.d.Edges()...); len(c) != 0 {
		l.t.Fatal("circles", c)
	}
}

// fail lets the power fail, also while the site is opened again, and goes on with what lasts.
func (l *life) fail() {
	var keeps []int
	for range len(l.k.Segs()) {
		keeps = append(keeps, l.r.Intn(60)-3)
	}
	x := l.k.Crash(keeps...)
	x.Fuse(l.r.Intn(6))
	seg := 16 + l.r.Intn(200)
	d, e := dba.Open(x, seg)
	if e == api.OK && x.Down() {
		l.lasts(d)
		l.seen["owed at Open"] += d.Owed()
	}
	if x.Down() {
		x = x.Crash(l.r.Intn(60), l.r.Intn(60), l.r.Intn(60))
	}
	x.Fuse(-1)
	is(l.t, "Room", x.Room(x.Used()+l.r.Intn(2000)), api.OK)
	d = l.reopen(x, seg)
	l.lasts(d)
	if l.maybe != nil && slices.Equal(d.Rows(), l.maybe.Rows()) {
		l.rows = l.maybe
	}
	l.maybe = nil
	d = l.reopen(x, seg)
	l.lasts(d)
	if d.Owed() > 0 {
		l.seen["owed at Open, twice"]++
	}
	l.k, l.d, l.steps, l.serial = x, d, map[int][]step{}, nil
}

// reopen is the site on a tape.
func (l *life) reopen(x *tape.Tape, seg int) *dba.Db {
	d, e := dba.Open(x, seg)
	is(l.t, "Open", e, api.OK)
	if len(d.Opened()) != 0 || len(d.Serial()) != 0 {
		l.t.Fatal(d.Opened(), d.Serial())
	}
	return d
}

// lasts fails the test, if a site has rows that may not be behind the loss of power.
func (l *life) lasts(d *dba.Db) {
	l.t.Helper()
	got := d.Rows()
	if !slices.Equal(got, l.rows.Rows()) && (l.maybe == nil || !slices.Equal(got, l.maybe.Rows())) {
		l.t.Fatal("there last", got, "not", l.rows.Rows(), "nor", l.maybe.Rows())
	}
}

// P12.7, P12.8, P12.9: clients of all kinds, now and then without room, till the power fails at some change of the tape, again and again on one tape.
func TestLives(t *testing.T) {
	seen := map[string]int{}
	for seed := range 300 {
		r := rand.New(rand.NewSource(int64(seed)))
		k := disk(t, 3000)
		d, e := dba.Open(k, 16+r.Intn(200))
		is(t, "Open", e, api.OK)
		l := &life{t: t, r: r, k: k, d: d, rows: cells.New(), steps: map[int][]step{}, seen: seen}
		for range 6 {
			l.k.Fuse(r.Intn(60))
			for range 150 {
				before := l.k.Used()
				e := l.call()
				l.check()
				if l.k.Down() {
					seen[fmt.Sprint("down by ", e)]++
					break
				}
				if before != l.k.Used() && r.Intn(10) == 0 {
					l.lasts(l.reopen(whole(l.k), 64))
				}
			}
			l.fail()
		}
	}
	for _, want := range []string{"Do 0", "Do 5", "Do 8", "Do 9", "Do 20", "Do 21", "Do 24", "Do 25", "another victim", "Commit 0", "Commit 5", "Commit 8", "Save 0", "Save 5", "Save 8", "Save 9", "owed at Open", "owed at Open, twice", "down by 0"} {
		if seen[want] == 0 {
			t.Error("never seen:", want)
		}
	}
}

// P12.8: of one Commit, with the power failing at each change and with each beginning of what was not synced, what lasts.
func TestLastsAtEachCut(t *testing.T) {
	seen := map[string]int{}
	for fuse := range 4 {
		for keep := range 80 {
			k := disk(t, 1000)
			d, e := dba.Open(k, 64)
			is(t, "Open", e, api.OK)
			one := begin(t, d)
			tells(t, d, one, "put x 1", 1)
			tells(t, d, one, "put y 1", 1)
			is(t, "Commit", d.Commit(one), api.OK)
			is(t, "Save", d.Save(), api.OK)
			two, three := begin(t, d), begin(t, d)
			tells(t, d, two, "add x 1", 2)
			tells(t, d, three, "del z", 0)
			tells(t, d, two, "del y", 1)
			tells(t, d, three, "put z 9", 9)
			k.Fuse(fuse)
			e = d.Commit(two)
			segs := len(k.Segs())
			b := open(t, k.Crash(append(make([]int, segs-1), keep)...))
			got := fmt.Sprint(b.Rows())
			if got != "[{x 2}]" && (e == api.OK || got != "[{x 1} {y 1}]") {
				t.Fatal(fuse, keep, e, got)
			}
			seen[fmt.Sprint(e, got)]++
		}
	}
	for _, want := range []string{"0[{x 2}]", "8[{x 2}]", "8[{x 1} {y 1}]"} {
		if seen[want] == 0 {
			t.Error("never seen:", want)
		}
	}
}
