package dbb_test

import (
	"fmt"
	"maps"
	"math"
	"math/rand"
	"slices"
	"testing"

	"byroad/api"
	"byroad/cells"
	"byroad/dbb"
	"byroad/ops"
	"byroad/tape"
)

// step is an operation that was done, and what it answered.
type step struct {
	op api.Op
	n  int64
	e  api.Errno
}

// life is a site from one loss of power to the next one, and what it must come to by what was answered.
type life struct {
	t     *testing.T
	r     *rand.Rand
	k     *tape.Tape
	d     *dbb.Db
	base  *cells.Cells   // the rows that Open found
	steps map[int][]step // of each one that goes on
	done  map[int][]step // of each one that is committed
	maybe int            // the one whose Commit was under way
	seen  map[string]int
}

// anyOp is some operation on one of a few keys.
func anyOp(r *rand.Rand) api.Op {
	x := api.Op{Kind: api.Get + r.Intn(6), Key: []string{"a", "b", "c", "d", "e", "~t"}[r.Intn(6)]}
	switch x.Kind {
	case api.Put, api.Add, api.Back:
		x.N = []int64{0, 1, -1, 5, math.MaxInt64, math.MinInt64}[r.Intn(6)]
	case api.Min:
		x.N, x.Lo = int64(r.Intn(7)-4), int64(r.Intn(3))
	}
	return x
}

// with is what all of them make of the rows that Open found, one by one by rising numbers; each operation must tell what it told.
func (l *life) with(done map[int][]step) []api.Row {
	l.t.Helper()
	c := l.base.Copy()
	for _, id := range slices.Sorted(maps.Keys(done)) {
		for _, s := range done[id] {
			n, there := c.Get(s.op.Key)
			n, there, told, e := ops.Eval(s.op, n, there)
			if told != s.n || e != s.e {
				l.t.Fatal(id, s.op, "told", s.n, s.e, "and not", told, e)
			}
			if e == api.OK {
				is(l.t, "Apply", c.Apply(cells.Change{Key: s.op.Key, N: n, There: there}), api.OK)
			}
		}
	}
	return c.Rows()
}

// rows is what the committed ones make, with those that may be committed, or not.
func (l *life) rows(maybe ...int) []api.Row {
	l.t.Helper()
	done := maps.Clone(l.done)
	for _, id := range maybe {
		done[id] = l.steps[id]
	}
	return l.with(done)
}

// do does some operation in a transaction.
func (l *life) do(id int) api.Errno {
	x := anyOp(l.r)
	n, e := l.d.Do(id, x)
	l.seen[fmt.Sprint("Do ", e)]++
	switch e {
	case api.OK, api.ErrGuard, api.ErrOver:
		l.steps[id] = append(l.steps[id], step{x, n, e})
	case api.ErrBusy:
		if slices.Min(l.d.Opened()) == id {
			l.t.Fatal(id, "waits for nobody")
		}
	case api.ErrLate:
		delete(l.steps, id)
	default:
		l.t.Fatal(x, e)
	}
	if n != 0 && e != api.OK {
		l.t.Fatal(n, e)
	}
	return e
}

// commit ends a transaction.
func (l *life) commit(id int) api.Errno {
	e := l.d.Commit(id)
	l.seen[fmt.Sprint("Commit ", e)]++
	switch e {
	case api.OK:
		l.done[id] = l.steps[id]
		delete(l.steps, id)
	case api.ErrDown:
		l.maybe = id
	default:
		is(l.t, "Commit", e, api.ErrFull)
		delete(l.steps, id)
	}
	return e
}

// call does something.
func (l *life) call() api.Errno {
	opened := l.d.Opened()
	switch n := l.r.Intn(20); {
	case len(opened) < 5 && n < 6:
		id, e := l.d.Begin()
		l.steps[id] = nil
		return e
	case n == 6 || n == 7 && len(opened) == 0:
		e := l.d.Save()
		if (e == api.ErrState) != (len(opened) > 0) {
			l.t.Fatal("Save", e, opened)
		}
		l.seen[fmt.Sprint("Save ", e)]++
		return e
	case len(opened) == 0:
		return api.OK
	case n == 8:
		id := opened[l.r.Intn(len(opened))]
		delete(l.steps, id)
		return l.d.Abort(id)
	case n == 9:
		return l.k.Room(l.k.Used() + l.r.Intn(200))
	case n < 13:
		return l.commit(opened[l.r.Intn(len(opened))])
	}
	return l.do(opened[l.r.Intn(len(opened))])
}

// check holds what the site tells against what it must.
func (l *life) check() {
	l.t.Helper()
	holds(l.t, l.d, l.rows()...)
	if got := l.d.Serial(); !slices.Equal(got, slices.Sorted(maps.Keys(l.done))) {
		l.t.Fatal("serial", got, "not", l.done)
	}
	if !slices.Equal(l.d.Opened(), slices.Sorted(maps.Keys(l.steps))) {
		l.t.Fatal("opened", l.d.Opened(), "not", l.steps)
	}
	if len(l.steps) == 0 && l.d.Versions() != len(l.d.Rows()) {
		l.t.Fatal(l.d.Versions(), "versions of", l.d.Rows())
	}
}

// fail lets the power fail, also while the site is opened again, and goes on with what lasts.
func (l *life) fail() {
	var keeps []int
	for range len(l.k.Segs()) {
		keeps = append(keeps, l.r.Intn(60)-3)
	}
	x := l.k.Crash(keeps...)
	x.Fuse(l.r.Intn(3))
	seg := 16 + l.r.Intn(200)
	if d, e := dbb.Open(x, seg); e == api.OK {
		l.lasts(d)
	} else {
		is(l.t, "Open", e, api.ErrDown)
		l.seen["down by Open"]++
		x = x.Crash(l.r.Intn(60), l.r.Intn(60), l.r.Intn(60))
	}
	x.Fuse(-1)
	is(l.t, "Room", x.Room(x.Used()+l.r.Intn(2000)), api.OK)
	l.lasts(l.reopen(x, seg))
	d := l.reopen(x, seg)
	l.lasts(d)
	l.base = cells.New(d.Rows()...)
	l.k, l.d, l.steps, l.done, l.maybe = x, d, map[int][]step{}, map[int][]step{}, 0
}

// reopen is the site on a tape.
func (l *life) reopen(x *tape.Tape, seg int) *dbb.Db {
	l.t.Helper()
	d, e := dbb.Open(x, seg)
	is(l.t, "Open", e, api.OK)
	if len(d.Opened()) != 0 || len(d.Serial()) != 0 {
		l.t.Fatal(d.Opened(), d.Serial())
	}
	for id, steps := range l.done {
		if slices.ContainsFunc(steps, func(s step) bool { return s.op.Kind == api.Put }) && d.Next() <= id {
			l.t.Fatal(d.Next(), "was committed")
		}
	}
	return d
}

// lasts fails the test, if a site has rows that may not be behind the loss of power.
func (l *life) lasts(d *dbb.Db) {
	l.t.Helper()
	got := d.Rows()
	if slices.Equal(got, l.rows()) {
		return
	}
	if l.maybe == 0 || !slices.Equal(got, l.rows(l.maybe)) {
		l.t.Fatal("there last", got, "not", l.rows(), "nor with", l.maybe)
	}
	l.seen["it lasts"]++
}

// P14.7, P14.8, P14.9: clients of all kinds, now and then without room, till the power fails at some change of the tape, again and again on one tape.
func TestLives(t *testing.T) {
	seen := map[string]int{}
	for seed := range 300 {
		r := rand.New(rand.NewSource(int64(seed)))
		k := disk(t, 3000)
		d, e := dbb.Open(k, 16+r.Intn(200))
		is(t, "Open", e, api.OK)
		l := &life{t: t, r: r, k: k, d: d, base: cells.New(), steps: map[int][]step{}, done: map[int][]step{}, seen: seen}
		for range 6 {
			l.k.Fuse(r.Intn(40))
			for range 150 {
				before := l.k.Used()
				e := l.call()
				l.check()
				if l.k.Down() {
					seen[fmt.Sprint("down by ", e)]++
					break
				}
				if before != l.k.Used() && r.Intn(10) == 0 {
					l.lasts(l.reopen(whole(l.k), 64))
				}
			}
			l.fail()
		}
	}
	for _, want := range []string{"Do 0", "Do 20", "Do 22", "Do 24", "Do 25", "Commit 0", "Commit 5", "Commit 8", "Save 0", "Save 5", "Save 8", "Save 9", "down by 8", "down by Open", "it lasts"} {
		if seen[want] == 0 {
			t.Error("never seen:", want)
		}
	}
}

// P14.3, P14.7: near the limit of rows nothing comes to more of them, and what is there is opened again.
func TestLivesFull(t *testing.T) {
	seen := map[api.Errno]int{}
	for seed := range 20 {
		r := rand.New(rand.NewSource(int64(seed)))
		k := saved(t, nil, record(1, puts(api.MaxRows-3)...))
		d := open(t, k)
		for range 400 {
			opened := d.Opened()
			id := 0
			if len(opened) > 0 {
				id = opened[r.Intn(len(opened))]
			}
			switch n := r.Intn(12); {
			case len(opened) < 4 && n < 4:
				begin(t, d)
			case n == 4:
				d.Commit(id)
				b := open(t, k)
				holds(t, b, d.Rows()...)
			case n == 5:
				d.Abort(id)
			default:
				_, e := d.Do(id, api.Op{Kind: []int{api.Put, api.Del, api.Put, api.Get}[r.Intn(4)], Key: fmt.Sprintf("k%03d", 246+r.Intn(16))})
				seen[e]++
			}
			if n := len(d.Rows()); n > api.MaxRows {
				t.Fatal(n, "rows")
			}
		}
	}
	for _, e := range []api.Errno{api.OK, api.ErrFull, api.ErrBusy, api.ErrLate} {
		if seen[e] == 0 {
			t.Error("never seen:", e)
		}
	}
}
