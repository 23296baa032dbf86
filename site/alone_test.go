package site_test

import (
	"slices"
	"testing"

	"byroad/api"
	"byroad/site"
)

// alone fails the test, if Alone of what a text says does not tell just that.
func alone(t *testing.T, s *site.Site, text string, want ...int64) {
	t.Helper()
	if told, at, e := s.Alone(list(t, text)...); !slices.Equal(told, want) || at != 0 || e != api.OK {
		t.Fatal("Alone", text, told, at, e, "not", want)
	}
}

// stops fails the test, if Alone does not answer just that number and error.
func stops(t *testing.T, s *site.Site, at int, want api.Errno, l ...api.Op) {
	t.Helper()
	if told, n, e := s.Alone(l...); len(told) != 0 || n != at || e != want {
		t.Fatal("Alone", l, told, n, e, "not", at, want)
	}
}

// P18.3
func TestAlone(t *testing.T) {
	each(t, func(t *testing.T, kind int) {
		s, k := fresh(t, kind)
		alone(t, s, "put x 5; add x 2; get y; del x; min z 4 4", 5, 7, 0, 7, 4)
		numbers(t, s, 2, nil, []int{1})
		holds(t, s, row("z", 4))
		holds(t, open(t, kind, k.Crash()), row("z", 4))
		alone(t, s, "")
		numbers(t, s, 3, nil, []int{1, 2})
		if told, at, e := s.Alone(put("~g", 3), put("~t", 8)); !slices.Equal(told, []int64{3, 8}) || at != 0 || e != api.OK {
			t.Error(told, at, e)
		}
		holds(t, s, row("z", 4), row("~g", 3), row("~t", 8))
		var many []api.Op
		for range 5 * api.MaxOps {
			many = append(many, api.Op{Kind: api.Add, Key: "z", N: 1})
		}
		told, at, e := s.Alone(many...)
		if len(told) != 40 || told[0] != 5 || told[39] != 44 || at != 0 || e != api.OK {
			t.Error(told, at, e)
		}
		numbers(t, s, 5, nil, []int{1, 2, 3, 4})
	})
}

// P18.3: the first operation with an error ends it, and nothing of it counts.
func TestAloneFails(t *testing.T) {
	each(t, func(t *testing.T, kind int) {
		s, k := fresh(t, kind)
		alone(t, s, "put x 1", 1)
		stops(t, s, 0, api.ErrGuard, list(t, "min x 0 2; put y 1")...)
		stops(t, s, 2, api.ErrGuard, list(t, "put x 9; add y 1; min x -9 1; put y 2; min x 0 99")...)
		stops(t, s, 1, api.ErrOver, list(t, "put x 9223372036854775807; add x 1")...)
		stops(t, s, 3, api.ErrArg, put("x", 7), put("y", 8), put("z", 9), api.Op{})
		stops(t, s, 0, api.ErrArg, put("X", 7), api.Op{})
		numbers(t, s, 7, nil, []int{1})
		holds(t, s, row("x", 1))
		alone(t, s, "get x; put x 2; put y 2", 1, 2, 2) // nothing is locked, late or stale
		holds(t, open(t, kind, k.Crash()), row("x", 2), row("y", 2))
	})
}

// P18.3: one that can't begin.
func TestAloneBegin(t *testing.T) {
	each(t, func(t *testing.T, kind int) {
		s, _ := fresh(t, kind)
		for range api.MaxOpen {
			begin(t, s)
		}
		stops(t, s, 0, api.ErrFull, put("x", 1), api.Op{})
		stops(t, s, 0, api.ErrFull)
		is(t, "Abort", s.Abort(5), api.OK)
		alone(t, s, "put x 1", 1)
		if len(s.Opened()) != api.MaxOpen-1 {
			t.Error(s.Opened())
		}
	})
}

// P18.3: one that would have to wait is aborted, and waits no more; those that look back don't wait.
func TestAloneBusy(t *testing.T) {
	for _, kind := range []int{site.Locks, site.Versions} {
		s, _ := fresh(t, kind)
		one := begin(t, s)
		tells(t, s, one, "put x 1", 1)
		stops(t, s, 2, api.ErrBusy, list(t, "put y 1; get z; get x; put w 1")...)
		numbers(t, s, 3, []int{one}, nil)
		alone(t, s, "put y 2; put z 2", 2, 2)
		tells(t, s, one, "get w", 0)
		is(t, "Commit", s.Commit(one), api.OK)
		alone(t, s, "get x", 1)
		holds(t, s, row("x", 1), row("y", 2), row("z", 2))
	}
	s, _ := fresh(t, site.Looks)
	one := begin(t, s)
	tells(t, s, one, "add x 1", 1)
	alone(t, s, "put y 1; add x 5", 1, 5)
	is(t, "Commit", s.Commit(one), api.ErrStale)
	holds(t, s, row("x", 5), row("y", 1))
}

// P18.3: a commit's error is told with how many operations there are.
func TestAloneCommit(t *testing.T) {
	each(t, func(t *testing.T, kind int) {
		s, k := fresh(t, kind)
		alone(t, s, "put x 1", 1)
		used := k.Used()
		is(t, "Room", k.Room(used), api.OK)
		at := 2
		if kind == site.Locks { // it writes each change at once
			at = 1
		}
		stops(t, s, at, api.ErrFull, list(t, "get x; put x 2")...)
		numbers(t, s, 3, nil, []int{1})
		alone(t, s, "get x; get y", 1, 0)
		if kind == site.Locks { // there is room for the changes, and not for the commit
			is(t, "Abort", s.Abort(begin(t, s)), api.OK)
			free := 1
			for ; ; free++ {
				is(t, "Room", k.Room(k.Used()+free), api.OK)
				_, at, e := s.Alone(put("y", 1), put("z", 1))
				if at == 2 {
					is(t, "Alone", e, api.ErrFull)
					break
				}
				if at > 2 || e != api.ErrFull {
					t.Fatal(free, at, e)
				}
			}
		}
		if len(s.Opened()) != 0 {
			t.Error(s.Opened())
		}
		holds(t, s, row("x", 1))
	})
}

// P18.3: without power at its commit it stays as it is.
func TestAloneDown(t *testing.T) {
	each(t, func(t *testing.T, kind int) {
		s, k := fresh(t, kind)
		alone(t, s, "put x 1", 1)
		fuse := 0
		if kind == site.Locks { // its change is written
			fuse = 1
		}
		k.Fuse(fuse)
		stops(t, s, 2, api.ErrDown, list(t, "get x; put x 2")...)
		numbers(t, s, 3, []int{2}, []int{1})
		holds(t, s, row("x", 1))
		tells(t, s, 2, "get x", 2)
		holds(t, open(t, kind, k.Crash()), row("x", 1))
		if kind == site.Locks {
			stops(t, s, 1, api.ErrDown, list(t, "get y; put y 2; get y")...)
			numbers(t, s, 4, []int{2}, []int{1})
		}
	})
}
