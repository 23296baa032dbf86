package site_test

import (
	"math"
	"slices"
	"testing"

	"byroad/api"
	"byroad/site"
)

// takes fails the test, if Take does not tell just that.
func takes(t *testing.T, s *site.Site, id int, want int64) {
	t.Helper()
	if n, e := s.Take(id); n != want || e != api.OK {
		t.Fatal("Take", id, n, e, "not", want)
	}
}

// refused fails the test, if Take does not answer just that error.
func refused(t *testing.T, s *site.Site, id int, want api.Errno) {
	t.Helper()
	if n, e := s.Take(id); n != 0 || e != want {
		t.Fatal("Take", id, n, e, "not", want)
	}
}

// P18.2, P18.4: a ticket is one more; the last one that was committed is told.
func TestTake(t *testing.T) {
	each(t, func(t *testing.T, kind int) {
		s, k := fresh(t, kind)
		if s.Ticket() != 0 {
			t.Error(s.Ticket())
		}
		refused(t, s, 1, api.ErrNone)
		one := begin(t, s)
		takes(t, s, one, 1)
		takes(t, s, one, 2)
		if s.Ticket() != 0 {
			t.Error("ahead of the commit", s.Ticket())
		}
		is(t, "Abort", s.Abort(one), api.OK)
		two := begin(t, s)
		takes(t, s, two, 1)
		is(t, "Commit", s.Commit(two), api.OK)
		holds(t, s, row("~t", 1))
		three := begin(t, s)
		takes(t, s, three, 2)
		if s.Ticket() != 1 || open(t, kind, k.Crash()).Ticket() != 1 {
			t.Error(s.Ticket())
		}
		is(t, "Commit", s.Commit(three), api.OK)
		if s.Ticket() != 2 || open(t, kind, k.Crash()).Ticket() != 2 {
			t.Error(s.Ticket())
		}
	})
}

// P18.2, P18.4: the ticket's row may hold anything.
func TestTicketRow(t *testing.T) {
	each(t, func(t *testing.T, kind int) {
		s, _ := fresh(t, kind)
		puts(t, s, row("t", 9), row("~tt", 8))
		if s.Ticket() != 0 {
			t.Error(s.Ticket())
		}
		puts(t, s, row("~t", -5))
		if s.Ticket() != -5 {
			t.Error(s.Ticket())
		}
		takes(t, s, begin(t, s), -4)
		s, _ = fresh(t, kind)
		puts(t, s, row("~t", math.MaxInt64))
		id := begin(t, s)
		refused(t, s, id, api.ErrOver)
		is(t, "Commit", s.Commit(id), api.OK)
		if s.Ticket() != math.MaxInt64 {
			t.Error(s.Ticket())
		}
	})
}

// P18.2: whoever takes a ticket beside another one waits, is late, or is stale.
func TestTakeTwo(t *testing.T) {
	s, _ := fresh(t, site.Locks)
	one, two := begin(t, s), begin(t, s)
	takes(t, s, two, 1)
	refused(t, s, one, api.ErrBusy)
	is(t, "Commit", s.Commit(two), api.OK)
	takes(t, s, one, 2)

	s, _ = fresh(t, site.Versions)
	one, two, three := begin(t, s), begin(t, s), begin(t, s)
	takes(t, s, two, 1)
	refused(t, s, three, api.ErrBusy)
	refused(t, s, one, api.ErrLate)
	numbers(t, s, 4, []int{two, three}, nil)
	is(t, "Commit", s.Commit(two), api.OK)
	takes(t, s, three, 2)

	s, _ = fresh(t, site.Looks)
	one, two = begin(t, s), begin(t, s)
	takes(t, s, two, 1)
	takes(t, s, one, 1)
	is(t, "Commit", s.Commit(two), api.OK)
	is(t, "Commit", s.Commit(one), api.ErrStale)
	if s.Ticket() != 1 {
		t.Error(s.Ticket())
	}
}

// names and others are such as a mark may have, and may not.
var (
	names  = []string{"a", "tt", "t.", "0", ".", "_", "k7.1", "abcdefghijklmno"}
	others = []string{"", "t", "A", "~", "~a", "a b", "a-b", "a\x00", "\xff", "é", "abcdefghijklmnop", "abcdefghijklmnopq", "tT"}
)

// P18.2, P18.4: what is a name.
func TestNamesOfMarks(t *testing.T) {
	each(t, func(t *testing.T, kind int) {
		s, _ := fresh(t, kind)
		for _, name := range names {
			id := begin(t, s)
			is(t, "Mark "+name, s.Mark(id, name), api.OK)
			if s.Has(name) || len(s.Names(name)) != 0 {
				t.Error(name, "ahead of the commit")
			}
			is(t, "Commit", s.Commit(id), api.OK)
			if l := s.Names(name); !s.Has(name) || len(l) != 1 || l[0] != name {
				t.Error(name, l)
			}
			holds(t, s, row("~"+name, 1))
			s, _ = fresh(t, kind)
		}
		id := begin(t, s)
		takes(t, s, id, 1)
		for _, name := range others {
			is(t, "Mark "+name, s.Mark(id, name), api.ErrArg)
			is(t, "Mark "+name, s.Mark(99, name), api.ErrArg) // ahead of all else
		}
		is(t, "Commit", s.Commit(id), api.OK)
		holds(t, s, row("~t", 1))
		for _, name := range others {
			if s.Has(name) {
				t.Errorf("Has %q", name)
			}
		}
	})
}

// P18.2: the errors of the get, that it is there, the errors of the put.
func TestMark(t *testing.T) {
	each(t, func(t *testing.T, kind int) {
		s, k := fresh(t, kind)
		is(t, "Mark of none", s.Mark(1, "a"), api.ErrNone)
		puts(t, s, row("~a", 1), row("~b", -7), row("~c", 0), row("d", 1), row("~t", 4))
		id := begin(t, s)
		is(t, "Mark a", s.Mark(id, "a"), api.ErrThere)
		is(t, "Mark b", s.Mark(id, "b"), api.ErrThere)
		is(t, "Mark c", s.Mark(id, "c"), api.OK)
		is(t, "Mark d", s.Mark(id, "d"), api.OK)
		is(t, "Mark d", s.Mark(id, "d"), api.ErrThere) // its own
		numbers(t, s, 3, []int{id}, []int{1})
		is(t, "Commit", s.Commit(id), api.OK)
		want := []api.Row{row("d", 1), row("~a", 1), row("~b", -7), row("~c", 1), row("~d", 1), row("~t", 4)}
		holds(t, s, want...)
		holds(t, open(t, kind, k.Crash()), want...)

		gone := begin(t, s)
		is(t, "Mark e", s.Mark(gone, "e"), api.OK)
		is(t, "Abort", s.Abort(gone), api.OK)
		id = begin(t, s)
		is(t, "Mark e", s.Mark(id, "e"), api.OK)
		_, e := s.Do(id, api.Op{Kind: api.Del, Key: "~a"})
		is(t, "del", e, api.OK)
		is(t, "Mark a", s.Mark(id, "a"), api.OK) // there is none any more
		is(t, "Commit", s.Commit(id), api.OK)
	})
}

// P18.2: of two that mark one name at one time one is told so, or waits, is late, or is stale.
func TestMarkTwo(t *testing.T) {
	s, _ := fresh(t, site.Locks)
	one, two, three := begin(t, s), begin(t, s), begin(t, s)
	tells(t, s, three, "get x", 0)
	is(t, "Mark", s.Mark(two, "a"), api.OK)
	is(t, "Mark, by the get", s.Mark(one, "a"), api.ErrBusy)
	is(t, "Commit", s.Commit(two), api.OK)
	is(t, "Mark", s.Mark(one, "a"), api.ErrThere)
	_, e := s.Do(three, api.Op{Kind: api.Get, Key: "~b"})
	is(t, "get", e, api.OK)
	is(t, "Mark, by the put", s.Mark(one, "b"), api.ErrBusy)
	is(t, "Abort", s.Abort(three), api.OK)
	is(t, "Mark", s.Mark(one, "b"), api.OK)

	s, _ = fresh(t, site.Versions)
	one, two, three = begin(t, s), begin(t, s), begin(t, s)
	is(t, "Mark", s.Mark(two, "a"), api.OK)
	is(t, "Mark, by the get", s.Mark(three, "a"), api.ErrBusy)
	is(t, "Mark, by the put", s.Mark(one, "a"), api.ErrLate)
	numbers(t, s, 4, []int{two, three}, nil)
	is(t, "Commit", s.Commit(two), api.OK)
	is(t, "Mark", s.Mark(three, "a"), api.ErrThere)

	s, _ = fresh(t, site.Looks)
	one, two = begin(t, s), begin(t, s)
	is(t, "Mark", s.Mark(one, "a"), api.OK)
	is(t, "Mark", s.Mark(two, "a"), api.OK)
	is(t, "Commit", s.Commit(two), api.OK)
	is(t, "Commit", s.Commit(one), api.ErrStale)
	is(t, "Mark", s.Mark(begin(t, s), "a"), api.ErrThere)
}

// P18.2: a put that finds no room.
func TestMarkFull(t *testing.T) {
	s, k := fresh(t, site.Locks)
	is(t, "Room", k.Room(10), api.OK)
	id := begin(t, s)
	is(t, "Mark", s.Mark(id, "a"), api.ErrFull)
	refused(t, s, id, api.ErrFull)
	is(t, "Room", k.Room(1000), api.OK)
	is(t, "Mark", s.Mark(id, "a"), api.OK)
	k.Fuse(0)
	is(t, "Mark", s.Mark(id, "b"), api.ErrDown)
	refused(t, s, id, api.ErrDown)
}

// P18.4: of committed rows alone.
func TestNames(t *testing.T) {
	each(t, func(t *testing.T, kind int) {
		s, _ := fresh(t, kind)
		if l := s.Names(""); len(l) != 0 {
			t.Error(l)
		}
		puts(t, s, row("~u1.2", 1), row("~k10.2", 1), row("~k1.2", 0), row("~k1.20", -1), row("~k2.1", 1), row("~t", 3), row("~tt", 1), row("~t1", 1), row("k1", 1), row("t", 1))
		id := begin(t, s)
		is(t, "Mark", s.Mark(id, "k0"), api.OK)
		_, e := s.Do(id, api.Op{Kind: api.Del, Key: "~k2.1"})
		is(t, "del", e, api.OK)
		for from, want := range map[string][]string{
			"": {"k1.2", "k1.20", "k10.2", "k2.1", "t1", "tt", "u1.2"}, "k": {"k1.2", "k1.20", "k10.2", "k2.1"}, "k1": {"k1.2", "k1.20", "k10.2"}, "k1.2": {"k1.2", "k1.20"}, "k1.20": {"k1.20"},
			"k1.200": nil, "t": {"t1", "tt"}, "tt": {"tt"}, "u": {"u1.2"}, "~": nil, "~k": nil, "1": nil, "2": nil, ".2": nil, "x": nil, "K": nil, "\xff": nil,
		} {
			if l := s.Names(from); !slices.Equal(l, want) {
				t.Errorf("Names %q: %q not %q", from, l, want)
			}
		}
		for name, want := range map[string]bool{"k1.2": false, "k1.20": true, "u1.2": true, "k2.1": true, "k0": false, "k": false, "k1": false, "t": false, "tt": true, "": false, "~tt": false} {
			if s.Has(name) != want {
				t.Errorf("Has %q", name)
			}
		}
		is(t, "Commit", s.Commit(id), api.OK)
		if l := s.Names("k"); !slices.Equal(l, []string{"k0", "k1.2", "k1.20", "k10.2"}) || s.Has("k2.1") || !s.Has("k0") {
			t.Error(l)
		}
	})
}
