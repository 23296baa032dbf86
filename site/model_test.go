package site_test

import (
	"fmt"
	"maps"
	"math"
	"math/rand"
	"slices"
	"testing"

	"byroad/api"
	"byroad/cells"
	"byroad/ops"
	"byroad/site"
	"byroad/tape"
)

// step is an operation that was done, and what it answered.
type step struct {
	op api.Op
	n  int64
	e  api.Errno
}

// txn is what was done in a transaction.
type txn struct {
	steps  []step
	ticket int64 // 0: it took none
	marks  []string
}

// life is a site of a kind from one opening to the next one, and what was done there.
type life struct {
	t      *testing.T
	r      *rand.Rand
	kind   int
	k      *tape.Tape
	s      *site.Site
	base   *cells.Cells // the rows that Open found
	txns   map[int]*txn // the open ones
	done   map[int]*txn // the committed ones
	serial []int        // these, in the order in which they were committed
	marked map[string]int
	ticket int64 // the last one of those that count
	seen   map[string]int
}

// step says that an operation was done. Of what was refused for another reason than its own nothing is said.
func (l *life) step(id int, op api.Op, n int64, e api.Errno) {
	if e == api.OK || e == api.ErrGuard || e == api.ErrOver {
		l.txns[id].steps = append(l.txns[id].steps, step{op, n, e})
	}
	for who := range l.txns {
		if !slices.Contains(l.s.Opened(), who) { // a victim, or too late
			delete(l.txns, who)
		}
	}
}

// clientOp is some operation on one of a few keys of anybody.
func clientOp(r *rand.Rand) api.Op {
	x := api.Op{Kind: api.Get + r.Intn(6), Key: []string{"a", "b", "c", "d", "e"}[r.Intn(5)]}
	switch x.Kind {
	case api.Put, api.Add, api.Back:
		x.N = []int64{0, 1, -1, 5, math.MaxInt64, math.MinInt64}[r.Intn(6)]
	case api.Min:
		x.N, x.Lo = int64(r.Intn(7)-4), int64(r.Intn(3))
	}
	return x
}

// do does some operation in a transaction.
func (l *life) do(id int) {
	op := clientOp(l.r)
	n, e := l.s.Do(id, op)
	l.seen[fmt.Sprint("Do ", e)]++
	l.step(id, op, n, e)
}

// take takes a ticket in a transaction that has none.
func (l *life) take(id int) {
	x := l.txns[id]
	if x.ticket != 0 {
		return
	}
	n, e := l.s.Take(id)
	l.seen[fmt.Sprint("Take ", e)]++
	x.ticket = n
	l.step(id, api.Op{Kind: api.Add, Key: "~t", N: 1}, n, e)
}

// mark makes a mark in a transaction.
func (l *life) mark(id int) {
	x := l.txns[id]
	name := fmt.Sprint("k", l.r.Intn(30))
	e := l.s.Mark(id, name)
	l.seen[fmt.Sprint("Mark ", e)]++
	switch e {
	case api.OK:
		x.marks = append(x.marks, name)
		l.step(id, api.Op{Kind: api.Get, Key: "~" + name}, 0, api.OK)
		l.step(id, put("~"+name, 1), 1, api.OK)
	case api.ErrThere:
		l.step(id, api.Op{Kind: api.Get, Key: "~" + name}, 1, api.OK)
	default:
		l.step(id, api.Op{}, 0, e)
	}
}

// commit ends a transaction.
func (l *life) commit(id int) {
	e := l.s.Commit(id)
	l.seen[fmt.Sprint("Commit ", e)]++
	if e == api.OK {
		l.done[id] = l.txns[id]
		l.serial = append(l.serial, id)
	}
	delete(l.txns, id)
}

// alone does some operations in a transaction of their own.
func (l *life) alone() {
	id := l.s.Next()
	var all []api.Op
	for range l.r.Intn(4) {
		all = append(all, clientOp(l.r))
	}
	told, at, e := l.s.Alone(all...)
	l.seen[fmt.Sprint("Alone ", e)]++
	if e != api.OK {
		if len(told) != 0 || at < 0 || at > len(all) || slices.Contains(l.s.Opened(), id) {
			l.t.Fatal("Alone", told, at, e, l.s.Opened())
		}
		return
	}
	x := &txn{}
	for i, op := range all {
		x.steps = append(x.steps, step{op, told[i], api.OK})
	}
	l.done[id] = x
	l.serial = append(l.serial, id)
}

// call does something.
func (l *life) call() {
	opened := l.s.Opened()
	switch n := l.r.Intn(24); {
	case len(opened) < 5 && n < 6:
		id := begin(l.t, l.s)
		l.txns[id] = &txn{}
	case n == 6:
		l.seen[fmt.Sprint("Save ", l.s.Save())]++
	case n == 7:
		is(l.t, "Room", l.k.Room(l.k.Used()+l.r.Intn(1000)), api.OK)
	case n == 8:
		l.alone()
	case len(opened) == 0:
	case n == 9:
		id := opened[l.r.Intn(len(opened))]
		delete(l.txns, id)
		is(l.t, "Abort", l.s.Abort(id), api.OK)
	case n < 13:
		l.commit(opened[l.r.Intn(len(opened))])
	case n < 15:
		l.take(opened[l.r.Intn(len(opened))])
	case n < 17:
		l.mark(opened[l.r.Intn(len(opened))])
	default:
		l.do(opened[l.r.Intn(len(opened))])
	}
}

// replay is what the committed ones make one by one of the rows that Open found; each of their operations must tell what it told.
func (l *life) replay() *cells.Cells {
	l.t.Helper()
	c := l.base.Copy()
	for _, id := range l.s.Serial() {
		for _, s := range l.done[id].steps {
			n, there := c.Get(s.op.Key)
			n, there, told, e := ops.Eval(s.op, n, there)
			if told != s.n || e != s.e {
				l.t.Fatal(id, s.op, "told", s.n, s.e, "and not", told, e)
			}
			if e == api.OK {
				is(l.t, "Apply", c.Apply(cells.Change{Key: s.op.Key, N: n, There: there}), api.OK)
			}
		}
	}
	return c
}

// check holds what the site tells against what was done: its rows, its order, its tickets, its marks.
func (l *life) check() {
	l.t.Helper()
	holds(l.t, l.s, l.replay().Rows()...)
	want := slices.Clone(l.serial)
	if l.kind == site.Versions {
		slices.Sort(want)
	}
	numbers(l.t, l.s, l.s.Next(), slices.Sorted(maps.Keys(l.txns)), want)
	ticket, marked := l.ticket, maps.Clone(l.marked)
	for _, id := range l.s.Serial() {
		x := l.done[id]
		if x.ticket != 0 {
			ticket++
			if x.ticket != ticket {
				l.t.Fatal(id, "has the ticket", x.ticket, "not", ticket)
			}
		}
		for _, name := range x.marks {
			marked[name]++
		}
	}
	for name, n := range marked {
		if n > 1 || !l.s.Has(name) {
			l.t.Fatal(name, "was marked by", n, l.s.Has(name))
		}
	}
	if got := l.s.Names(""); l.s.Ticket() != ticket || !slices.Equal(got, slices.Sorted(maps.Keys(marked))) {
		l.t.Fatal("ticket", l.s.Ticket(), "not", ticket, "names", got, "not", marked)
	}
}

// reopen lets the power fail, and goes on with what lasts.
func (l *life) reopen(seg int) {
	l.t.Helper()
	for _, id := range l.s.Serial() {
		for _, name := range l.done[id].marks {
			l.marked[name]++
		}
	}
	l.ticket = l.s.Ticket()
	rows := l.s.Rows()
	l.k = l.k.Crash(l.r.Intn(30), l.r.Intn(30), l.r.Intn(30))
	s, e := site.Open(l.kind, l.k, seg)
	is(l.t, "Open", e, api.OK)
	holds(l.t, s, rows...)
	l.s, l.base, l.txns, l.done, l.serial = s, cells.New(rows...), map[int]*txn{}, map[int]*txn{}, nil
}

// P18.5, P18.6, P18.7: of every kind, with clients of all sorts that take tickets and make marks.
func TestLives(t *testing.T) {
	each(t, func(t *testing.T, kind int) {
		seen := map[string]int{}
		for seed := range 40 {
			r := rand.New(rand.NewSource(int64(seed)))
			k := disk(t, 6000)
			s, e := site.Open(kind, k, 300)
			is(t, "Open", e, api.OK)
			l := &life{t: t, r: r, kind: kind, k: k, s: s, marked: map[string]int{}, seen: seen}
			for range 4 {
				l.reopen(16 + r.Intn(400))
				for range 120 {
					l.call()
					l.check()
				}
			}
		}
		want := [][]string{
			site.Locks:    {"Do 5", "Do 20", "Do 21", "Take 20", "Take 21", "Mark 20", "Mark 21", "Alone 20", "Save 9"},
			site.Versions: {"Do 20", "Do 22", "Take 20", "Take 22", "Mark 20", "Mark 22", "Alone 20", "Save 9"},
			site.Looks:    {"Commit 23"},
		}[kind]
		for _, what := range append(want, "Do 0", "Do 24", "Do 25", "Take 0", "Mark 0", "Mark 4", "Commit 0", "Commit 5", "Alone 0", "Alone 5", "Alone 24", "Save 0", "Save 5") {
			if seen[what] == 0 {
				t.Error("never seen:", what)
			}
		}
	})
}

// deed does something without anything else between, and is what was told. The same luck does the same.
func deed(r *rand.Rand, s *site.Site) string {
	if r.Intn(3) == 0 {
		var l []api.Op
		for range r.Intn(4) {
			l = append(l, anyOp(r))
		}
		told, at, e := s.Alone(l...)
		return fmt.Sprint("Alone ", l, told, at, e)
	}
	id, e := s.Begin()
	all := fmt.Sprint(e)
	for range r.Intn(6) {
		switch r.Intn(4) {
		case 0:
			n, e := s.Take(id)
			all += fmt.Sprint("; Take ", n, e)
		case 1:
			name := []string{"a", "b", "k1.2", "u", "t", ""}[r.Intn(6)]
			all += fmt.Sprint("; Mark ", name, " ", s.Mark(id, name))
		default:
			op := anyOp(r)
			n, e := s.Do(id, op)
			all += fmt.Sprint("; ", op, n, e)
		}
	}
	if r.Intn(3) == 0 {
		return all + fmt.Sprint("; Abort ", s.Abort(id))
	}
	return all + fmt.Sprint("; Commit ", s.Commit(id))
}

// P18.8: of every kind the same is told, and comes to the same rows, also behind a loss of power and a checkpoint.
func TestTheSame(t *testing.T) {
	for seed := range 80 {
		var lives [3][]string
		for kind := range lives {
			r := rand.New(rand.NewSource(int64(seed)))
			s, k := fresh(t, kind)
			for range 40 {
				switch r.Intn(8) {
				case 0:
					is(t, "Save", s.Save(), api.OK)
				case 1:
					k = k.Crash()
					s = open(t, kind, k)
				}
				told := deed(r, s)
				lives[kind] = append(lives[kind], fmt.Sprint(told, s.Rows(), s.Ticket(), s.Names(""), s.Has("a"), s.Has("k1.2"), s.Opened()))
			}
		}
		for i, what := range lives[0] {
			if lives[1][i] != what || lives[2][i] != what {
				t.Fatalf("%d, deed %d\n%s\n%s\n%s", seed, i, what, lives[1][i], lives[2][i])
			}
		}
	}
}
