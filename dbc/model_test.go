package dbc_test

import (
	"fmt"
	"maps"
	"math"
	"math/rand"
	"slices"
	"testing"

	"byroad/api"
	"byroad/cells"
	"byroad/dbc"
	"byroad/ops"
	"byroad/tape"
)

// step is an operation that was done, and what it answered.
type step struct {
	op api.Op
	n  int64
	e  api.Errno
}

// txn is what the chapter's words say of an open transaction.
type txn struct {
	since int
	reads map[string]bool
	side  map[string]cells.Change
	steps []step
}

// life is a site from one loss of power to the next one, and what it must come to by the chapter's words.
type life struct {
	t       *testing.T
	r       *rand.Rand
	k       *tape.Tape
	d       *dbc.Db
	base    *cells.Cells // the rows that Open found
	rows    *cells.Cells // those that were committed
	commits []map[string]cells.Change
	txns    map[int]*txn
	done    map[int][]step
	serial  []int
	next    int
	mark    int // the greatest one that was committed with changes
	maybe   int // the one whose Commit was under way
	seen    map[string]int
}

// anyOp is some operation on one of a few keys.
func anyOp(r *rand.Rand) api.Op {
	x := api.Op{Kind: api.Get + r.Intn(6), Key: []string{"a", "b", "c", "d", "e", "f", "g", "~t"}[r.Intn(8)]}
	switch x.Kind {
	case api.Put, api.Add, api.Back:
		x.N = []int64{0, 1, -1, 5, math.MaxInt64, math.MinInt64}[r.Intn(6)]
	case api.Min:
		x.N, x.Lo = int64(r.Intn(7)-4), int64(r.Intn(3))
	}
	return x
}

// eval is what an operation must answer in a transaction, and does it there.
func (l *life) eval(x *txn, op api.Op) (int64, api.Errno) {
	var was cells.Change
	own, has := x.side[op.Key]
	if has && op.Kind != api.Put {
		was = own
	}
	if !has && op.Kind != api.Put {
		was.N, was.There = l.rows.Get(op.Key)
		x.reads[op.Key] = true
	}
	n, there, told, e := ops.Eval(op, was.N, was.There)
	if e == api.OK && (op.Kind == api.Put || n != was.N || there != was.There) {
		x.side[op.Key] = cells.Change{Key: op.Key, N: n, There: there}
	}
	return told, e
}

// stale tells whether anything that a transaction has read was changed since it began.
func (l *life) stale(x *txn) bool {
	for _, c := range l.commits[x.since:] {
		for key := range c {
			if x.reads[key] {
				return true
			}
		}
	}
	return false
}

// with is rows, and a transaction's changes.
func (l *life) with(x *txn) *cells.Cells {
	l.t.Helper()
	c := l.rows.Copy()
	is(l.t, "Apply", c.Apply(slices.Collect(maps.Values(x.side))...), api.OK)
	return c
}

// replay is what the committed ones make one by one of the rows that Open found; each of their operations must tell what it told.
func (l *life) replay() *cells.Cells {
	l.t.Helper()
	c := l.base.Copy()
	for _, id := range l.serial {
		for _, s := range l.done[id] {
			n, there := c.Get(s.op.Key)
			n, there, told, e := ops.Eval(s.op, n, there)
			if told != s.n || e != s.e {
				l.t.Fatal(id, s.op, "told", s.n, s.e, "and not", told, e)
			}
			if e == api.OK {
				is(l.t, "Apply", c.Apply(cells.Change{Key: s.op.Key, N: n, There: there}), api.OK)
			}
		}
	}
	return c
}

// do does some operation in a transaction.
func (l *life) do(id int) api.Errno {
	op := anyOp(l.r)
	x := l.txns[id]
	n, e := l.d.Do(id, op)
	if want, f := l.eval(x, op); n != want || e != f {
		l.t.Fatal(id, op, "tells", n, e, "not", want, f)
	}
	x.steps = append(x.steps, step{op, n, e})
	l.seen[fmt.Sprint("Do ", e)]++
	return e
}

// commit ends a transaction, unless the power fails.
func (l *life) commit(id int) api.Errno {
	x := l.txns[id]
	free := l.k.Free()
	e := l.d.Commit(id)
	l.seen[fmt.Sprint("Commit ", e)]++
	switch {
	case l.stale(x) != (e == api.ErrStale):
		l.t.Fatal(id, e, "though stale is", l.stale(x))
	case e == api.ErrDown && len(x.side) > 0:
		l.maybe = id
		return e
	case e == api.OK:
		l.done[id] = x.steps
		l.serial = append(l.serial, id)
		if len(x.side) > 0 {
			l.rows = l.with(x)
			l.commits = append(l.commits, x.side)
			l.mark = max(l.mark, id)
		}
	case e == api.ErrFull && len(x.side) > 0 && free < 300:
	case e != api.ErrStale:
		l.t.Fatal(id, "Commit", e)
	}
	delete(l.txns, id)
	return e
}

// begin opens a transaction.
func (l *life) begin() api.Errno {
	id, e := l.d.Begin()
	if id != l.next {
		l.t.Fatal(id, e, "not", l.next)
	}
	l.next++
	l.txns[id] = &txn{since: len(l.commits), reads: map[string]bool{}, side: map[string]cells.Change{}}
	return e
}

// save takes a checkpoint, whoever is open.
func (l *life) save() api.Errno {
	e := l.d.Save()
	if e != api.OK && e != api.ErrFull && e != api.ErrDown || e == api.OK && l.d.Dead() != 0 {
		l.t.Fatal("Save", e, l.d.Dead())
	}
	l.seen[fmt.Sprint("Save ", e, " ", min(len(l.txns), 1))]++
	return e
}

// call does something.
func (l *life) call() api.Errno {
	opened := l.d.Opened()
	switch n := l.r.Intn(20); {
	case len(opened) < 5 && n < 6:
		return l.begin()
	case n == 6:
		return l.save()
	case n == 7:
		return l.k.Room(l.k.Used() + l.r.Intn(400))
	case len(opened) == 0:
		return api.OK
	case n == 8:
		id := opened[l.r.Intn(len(opened))]
		delete(l.txns, id)
		return l.d.Abort(id)
	case n < 12:
		return l.commit(opened[l.r.Intn(len(opened))])
	}
	return l.do(opened[l.r.Intn(len(opened))])
}

// check holds what the site tells against what it must.
func (l *life) check() {
	l.t.Helper()
	holds(l.t, l.d, l.rows.Rows()...)
	numbers(l.t, l.d, l.next, l.d.Dead(), slices.Sorted(maps.Keys(l.txns)), l.serial)
}

// fail lets the power fail, also while the site is opened again, and goes on with what lasts.
func (l *life) fail() {
	if got := l.replay(); !got.Same(l.rows) {
		l.t.Fatal("one by one", got.Rows(), "not", l.rows.Rows())
	}
	var keeps []int
	for range len(l.k.Segs()) {
		keeps = append(keeps, l.r.Intn(60)-3)
	}
	x := l.k.Crash(keeps...)
	x.Fuse(l.r.Intn(3))
	seg := 16 + l.r.Intn(200)
	if d, e := dbc.Open(x, seg); e == api.OK {
		l.lasts(d)
	} else {
		is(l.t, "Open", e, api.ErrDown)
		l.seen["down by Open"]++
		x = x.Crash(l.r.Intn(60), l.r.Intn(60), l.r.Intn(60))
	}
	x.Fuse(-1)
	is(l.t, "Room", x.Room(x.Used()+l.r.Intn(2000)), api.OK)
	for range 2 {
		l.d = l.reopen(x, seg)
	}
	l.begun(x, l.d)
}

// begun lets a life begin with the site that is on a tape.
func (l *life) begun(k *tape.Tape, d *dbc.Db) {
	l.k, l.d, l.base, l.rows = k, d, cells.New(d.Rows()...), cells.New(d.Rows()...)
	l.txns, l.done, l.commits, l.serial = map[int]*txn{}, map[int][]step{}, nil, nil
	l.next, l.mark, l.maybe = d.Next(), d.Next()-1, 0
}

// reopen is the site on a tape.
func (l *life) reopen(x *tape.Tape, seg int) *dbc.Db {
	l.t.Helper()
	d, e := dbc.Open(x, seg)
	is(l.t, "Open", e, api.OK)
	l.lasts(d)
	return d
}

// lasts fails the test, if a site is not one that may be behind the loss of power.
func (l *life) lasts(d *dbc.Db) {
	l.t.Helper()
	if len(d.Opened()) != 0 || len(d.Serial()) != 0 {
		l.t.Fatal(d.Opened(), d.Serial())
	}
	got := d.Rows()
	if slices.Equal(got, l.rows.Rows()) && d.Next() == l.mark+1 {
		return
	}
	if l.maybe == 0 {
		l.t.Fatal("there last", got, d.Next(), "not", l.rows.Rows(), l.mark+1)
	}
	if with := l.with(l.txns[l.maybe]).Rows(); !slices.Equal(got, with) || d.Next() != max(l.mark, l.maybe)+1 {
		l.t.Fatal("there last", got, d.Next(), "not", l.rows.Rows(), "nor", with, "by", l.maybe)
	}
	l.seen["it lasts"]++
}

// P17.2 to P17.8: clients of all kinds, now and then without room, till the power fails at some change of the tape, again and again on one tape.
func TestLives(t *testing.T) {
	seen := map[string]int{}
	for seed := range 400 {
		r := rand.New(rand.NewSource(int64(seed)))
		k := disk(t, 3000)
		d, e := dbc.Open(k, 16+r.Intn(200))
		is(t, "Open", e, api.OK)
		l := &life{t: t, r: r, seen: seen}
		l.begun(k, d)
		for range 6 {
			l.k.Fuse(r.Intn(40))
			for range 150 {
				before := l.k.Used()
				e := l.call()
				l.check()
				if l.k.Down() {
					seen[fmt.Sprint("down by ", e)]++
					break
				}
				if before != l.k.Used() && r.Intn(10) == 0 {
					l.reopen(whole(l.k), 64)
				}
			}
			for range r.Intn(3) { // some calls more, without power
				if l.maybe == 0 {
					l.call()
					l.check()
				}
			}
			l.fail()
		}
	}
	for _, want := range []string{"Do 0", "Do 24", "Do 25", "Commit 0", "Commit 5", "Commit 8", "Commit 23", "Save 0 0", "Save 0 1", "Save 5 1", "Save 8 1", "down by 8", "down by Open", "it lasts"} {
		if seen[want] == 0 {
			t.Error("never seen:", want)
		}
	}
}

// P17.7: of one Commit, with the power failing at each change and with each beginning of what was not synced, what lasts.
func TestLastsAtEachCut(t *testing.T) {
	seen := map[string]int{}
	for fuse := range 4 {
		for keep := range 40 {
			k := disk(t, 1000)
			d, e := dbc.Open(k, 30)
			is(t, "Open", e, api.OK)
			does(t, d, "put x 1", "put y 1")
			is(t, "Save", d.Save(), api.OK)
			two, three := begin(t, d), begin(t, d)
			tells(t, d, two, "add x 1", 2)
			tells(t, d, three, "put z 9", 9)
			tells(t, d, two, "del y", 1)
			k.Fuse(fuse)
			e = d.Commit(two)
			b := open(t, k.Crash(append(make([]int, max(0, len(k.Segs())-1)), keep)...))
			got := fmt.Sprint(e, b.Rows(), b.Next())
			seen[got]++
			if e == api.OK && got != "0 [{x 2}] 3" {
				t.Fatal(fuse, keep, got)
			}
		}
	}
	for _, want := range []string{"0 [{x 2}] 3", "8 [{x 2}] 3", "8 [{x 1} {y 1}] 2"} {
		if seen[want] == 0 {
			t.Error("never seen:", want, seen)
		}
		delete(seen, want)
	}
	if len(seen) > 0 {
		t.Error("seen", seen)
	}
}
