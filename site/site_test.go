package site_test

import (
	"fmt"
	"math"
	"math/rand"
	"slices"
	"testing"

	"byroad/api"
	"byroad/dba"
	"byroad/dbb"
	"byroad/dbc"
	"byroad/journal"
	"byroad/ops"
	"byroad/site"
	"byroad/tape"
)

// disk is a tape of that room.
func disk(t *testing.T, room int) *tape.Tape {
	t.Helper()
	k, e := tape.New(room)
	is(t, "the tape's New", e, api.OK)
	return k
}

// open is the site of a kind on a tape.
func open(t *testing.T, kind int, k *tape.Tape) *site.Site {
	t.Helper()
	s, e := site.Open(kind, k, 4000)
	if e != api.OK || s == nil {
		t.Fatal("Open", kind, e)
	}
	return s
}

// fresh is a site of a kind on an empty tape, and that.
func fresh(t *testing.T, kind int) (*site.Site, *tape.Tape) {
	t.Helper()
	k := disk(t, 80000)
	return open(t, kind, k), k
}

// each runs a test for each kind of site.
func each(t *testing.T, test func(t *testing.T, kind int)) {
	for kind, name := range []string{"locks", "versions", "looks"} {
		t.Run(name, func(t *testing.T) { test(t, kind) })
	}
}

// list is the operations that a text says, also on the system's keys.
func list(t *testing.T, s string) []api.Op {
	t.Helper()
	l, at, e := ops.Parse(s)
	if e != api.OK {
		t.Fatal(s, at, e)
	}
	return l
}

// begin opens a transaction.
func begin(t *testing.T, s *site.Site) int {
	t.Helper()
	id, e := s.Begin()
	is(t, "Begin", e, api.OK)
	return id
}

// tells fails the test, if an operation does not tell just that.
func tells(t *testing.T, s *site.Site, id int, text string, want int64) {
	t.Helper()
	if n, e := s.Do(id, list(t, text)[0]); n != want || e != api.OK {
		t.Fatal(id, text, "tells", n, e, "not", want)
	}
}

// put is to put a number to any key.
func put(key string, n int64) api.Op { return api.Op{Kind: api.Put, Key: key, N: n} }

// puts lets keys hold numbers, in a transaction of their own.
func puts(t *testing.T, s *site.Site, l ...api.Row) {
	t.Helper()
	id := begin(t, s)
	for _, r := range l {
		_, e := s.Do(id, put(r.Key, r.N))
		is(t, "put "+r.Key, e, api.OK)
	}
	is(t, "Commit", s.Commit(id), api.OK)
}

// is fails the test, if a call does not answer just that.
func is(t *testing.T, what string, got, want api.Errno) {
	t.Helper()
	if got != want {
		t.Fatal(what, "answers", got, "not", want)
	}
}

// row is a row.
func row(key string, n int64) api.Row { return api.Row{Key: key, N: n} }

// holds fails the test, if a site does not tell just these rows.
func holds(t *testing.T, s *site.Site, want ...api.Row) {
	t.Helper()
	if got := s.Rows(); !slices.Equal(got, want) {
		t.Fatal("rows", got, "not", want)
	}
}

// numbers fails the test, if what a site tells of its transactions is not just that.
func numbers(t *testing.T, s *site.Site, next int, opened []int, serial []int) {
	t.Helper()
	if s.Next() != next || !slices.Equal(s.Opened(), opened) || !slices.Equal(s.Serial(), serial) {
		t.Fatal("next", s.Next(), "opened", s.Opened(), "serial", s.Serial())
	}
}

// P18
func TestNil(t *testing.T) {
	for what, s := range map[string]*site.Site{"nil": nil, "one that Open did not make": {}} {
		id, begin := s.Begin()
		n, do := s.Do(1, put("x", 1))
		m, none := s.Do(1, api.Op{})
		ticket, take := s.Take(1)
		told, at, alone := s.Alone(put("x", 1))
		_, _, empty := s.Alone()
		_, _, bad := s.Alone(api.Op{})
		for call, e := range map[string]api.Errno{
			"Begin": begin, "Do": do, "Do of none": none, "Commit": s.Commit(1), "Abort": s.Abort(1), "Save": s.Save(),
			"Take": take, "Mark": s.Mark(1, "a"), "Mark of no name": s.Mark(1, "t"), "Alone": alone, "Alone of nothing": empty, "Alone of none": bad,
		} {
			if e != api.ErrNil {
				t.Error(what, call, e)
			}
		}
		if id != 0 || n != 0 || m != 0 || ticket != 0 || len(told) != 0 || at != 0 {
			t.Error(what, id, n, m, ticket, told, at)
		}
		if s.Kind() != -1 || len(s.Rows())+len(s.Opened())+len(s.Serial())+len(s.Names("")) != 0 || s.Next() != 0 || s.Ticket() != 0 || s.Has("a") {
			t.Error(what, s.Kind(), s.Rows(), s.Opened(), s.Serial(), s.Next(), s.Ticket())
		}
	}
}

// The chapter's example.
func TestExample(t *testing.T) {
	each(t, func(t *testing.T, kind int) {
		s, _ := fresh(t, kind)
		if told, at, e := s.Alone(put("x", 5)); !slices.Equal(told, []int64{5}) || at != 0 || e != api.OK {
			t.Error(told, at, e)
		}
		id := begin(t, s)
		if n, e := s.Take(id); n != 1 || e != api.OK {
			t.Error(n, e)
		}
		is(t, "Mark", s.Mark(id, "a"), api.OK)
		is(t, "Commit", s.Commit(id), api.OK)
		if s.Ticket() != 1 || !s.Has("a") {
			t.Error(s.Ticket(), s.Has("a"))
		}
		is(t, "another one's Mark", s.Mark(begin(t, s), "a"), api.ErrThere)
	})
}

// P18.1: ErrArg of no kind, ahead of all else; else the kind's errors.
func TestOpenRefused(t *testing.T) {
	for _, kind := range []int{-1, 3, math.MinInt, math.MaxInt} {
		for _, k := range []*tape.Tape{nil, disk(t, 100)} {
			for _, seg := range []int{-1, 100} {
				if s, e := site.Open(kind, k, seg); s != nil || e != api.ErrArg {
					t.Error(kind, s, e)
				}
			}
		}
	}
	each(t, func(t *testing.T, kind int) {
		torn := disk(t, 100)
		is(t, "Append", torn.Append(0, []byte("torn")), api.OK)
		torn.Fuse(0)
		bad := disk(t, 100)
		j, e := journal.Open(bad, 100)
		is(t, "the journal's Open", e, api.OK)
		is(t, "the journal's Write", j.Write([]byte("what?")), api.OK)
		for _, c := range []struct {
			k    *tape.Tape
			seg  int
			want api.Errno
		}{{nil, 100, api.ErrNil}, {disk(t, 100), 15, api.ErrArg}, {disk(t, 100), api.MaxDisk + 1, api.ErrArg}, {torn, 100, api.ErrDown}, {bad, 100, api.ErrForm}} {
			if s, e := site.Open(kind, c.k, c.seg); s != nil || e != c.want {
				t.Error(e, "not", c.want)
			}
		}
		for _, seg := range []int{16, api.MaxDisk} {
			if s, e := site.Open(kind, disk(t, 0), seg); s == nil || e != api.OK || s.Kind() != kind {
				t.Error(seg, e)
			}
		}
	})
}

// P18.1: the numbers of the kinds.
func TestKinds(t *testing.T) {
	if site.Locks != 0 || site.Versions != 1 || site.Looks != 2 {
		t.Error(site.Locks, site.Versions, site.Looks)
	}
	for _, c := range []struct {
		kind       int
		busy, late api.Errno
	}{{site.Locks, api.ErrBusy, api.OK}, {site.Versions, api.OK, api.ErrLate}, {site.Looks, api.OK, api.OK}} {
		s, _ := fresh(t, c.kind)
		one, two := begin(t, s), begin(t, s)
		tells(t, s, one, "get x", 0)
		_, e := s.Do(two, put("x", 1))
		is(t, fmt.Sprint("a put of what one has read, kind ", c.kind), e, c.busy)
		s, _ = fresh(t, c.kind)
		one, two = begin(t, s), begin(t, s)
		tells(t, s, two, "get y", 0)
		is(t, "Commit", s.Commit(two), api.OK)
		_, e = s.Do(one, put("y", 1))
		is(t, fmt.Sprint("a put of what a later one has read, kind ", c.kind), e, c.late)
	}
}

// kin is what all kinds have, and what a site must answer as they do.
type kin interface {
	Begin() (int, api.Errno)
	Do(id int, op api.Op) (int64, api.Errno)
	Commit(id int) api.Errno
	Abort(id int) api.Errno
	Save() api.Errno
	Rows() []api.Row
	Opened() []int
	Serial() []int
	Next() int
}

// own is the kind's own site on a tape.
func own(kind int, k *tape.Tape, seg int) (kin, api.Errno) {
	switch kind {
	case site.Locks:
		return dba.Open(k, seg)
	case site.Versions:
		return dbb.Open(k, seg)
	}
	return dbc.Open(k, seg)
}

// anyOp is some operation on one of a few keys; now and then it may not be.
func anyOp(r *rand.Rand) api.Op {
	x := api.Op{Kind: api.Get + r.Intn(6), Key: []string{"a", "b", "c", "~t", "~k1.2", "~u"}[r.Intn(6)]}
	switch x.Kind {
	case api.Put, api.Add, api.Back:
		x.N = []int64{0, 1, -1, 5, math.MaxInt64, math.MinInt64}[r.Intn(6)]
	case api.Min:
		x.N, x.Lo = int64(r.Intn(7)-4), int64(r.Intn(3))
	}
	if r.Intn(50) == 0 {
		x = []api.Op{{}, {Kind: 7, Key: "a"}, {Kind: api.Put, Key: "A"}, {Kind: api.Get, Key: "a", N: 1}}[r.Intn(4)]
	}
	return x
}

// call does some call, and is what it answered. The same luck makes the same call.
func call(r *rand.Rand, d kin, k *tape.Tape) string {
	id := r.Intn(d.Next()+2) - 1
	if l := d.Opened(); len(l) > 0 && r.Intn(20) > 0 {
		id = l[r.Intn(len(l))]
	}
	switch n := r.Intn(20); {
	case n < 3:
		id, e := d.Begin()
		return fmt.Sprint("Begin ", id, e)
	case n < 5:
		return fmt.Sprint("Commit ", id, d.Commit(id))
	case n < 6:
		return fmt.Sprint("Abort ", id, d.Abort(id))
	case n < 7:
		return fmt.Sprint("Save ", d.Save())
	case n < 8:
		return fmt.Sprint("Room ", k.Room(k.Used()+r.Intn(300)))
	}
	op := anyOp(r)
	told, e := d.Do(id, op)
	return fmt.Sprint("Do ", id, op, told, e)
}

// P18.1: Begin, Do, Commit, Abort, Save, Rows, Opened, Serial and Next are the kind's, till the power fails, and behind that.
func TestAsTheKind(t *testing.T) {
	each(t, func(t *testing.T, kind int) {
		for seed := range 60 {
			a, b := disk(t, 2000), disk(t, 2000)
			for life := range 3 {
				s, e := site.Open(kind, a, 64)
				d, f := own(kind, b, 64)
				if e != f || e != api.OK || s.Kind() != kind {
					t.Fatal(seed, e, f)
				}
				fuse := rand.New(rand.NewSource(int64(seed))).Intn(60) + 20*life
				a.Fuse(fuse)
				b.Fuse(fuse)
				r, q := rand.New(rand.NewSource(int64(seed))), rand.New(rand.NewSource(int64(seed)))
				for range 150 {
					got, want := call(r, s, a), call(q, d, b)
					if got != want {
						t.Fatal(seed, got, "not", want)
					}
					holds(t, s, d.Rows()...)
					numbers(t, s, d.Next(), d.Opened(), d.Serial())
				}
				a, b = a.Crash(5, 50), b.Crash(5, 50)
			}
		}
	})
}

// P18.1: nothing that is told is shared.
func TestShared(t *testing.T) {
	each(t, func(t *testing.T, kind int) {
		s, _ := fresh(t, kind)
		puts(t, s, row("~a", 1), row("~b", 2))
		begin(t, s)
		clear(s.Rows())
		clear(s.Opened())
		clear(s.Serial())
		clear(s.Names(""))
		l := []api.Op{put("x", 1), put("y", 2)}
		told, _, e := s.Alone(l...)
		is(t, "Alone", e, api.OK)
		if l[0] != put("x", 1) || l[1] != put("y", 2) {
			t.Error("it changes its list", l)
		}
		clear(told)
		clear(l)
		holds(t, s, row("x", 1), row("y", 2), row("~a", 1), row("~b", 2))
		numbers(t, s, 4, []int{2}, []int{1, 3})
		if got := s.Names(""); !slices.Equal(got, []string{"a", "b"}) {
			t.Error(got)
		}
	})
}
