package dbc

import (
	"testing"

	"byroad/api"
	"byroad/tape"
)

// P17.4: behind each Commit and each Abort the history knows no more than what an open transaction began ahead of. That can't be seen from without.
func TestForget(t *testing.T) {
	k, _ := tape.New(2000)
	d, e := Open(k, 100)
	if e != api.OK {
		t.Fatal(e)
	}
	is := func(what string, now, floor int) {
		t.Helper()
		if d.past.Now() != now || d.past.Floor() != floor {
			t.Fatal(what, "now", d.past.Now(), "floor", d.past.Floor())
		}
	}
	put := func() {
		t.Helper()
		id, _ := d.Begin()
		d.Do(id, api.Op{Kind: api.Put, Key: "x", N: 1})
		if e := d.Commit(id); e != api.OK {
			t.Fatal(id, e)
		}
	}
	put()
	is("nobody is open", 1, 1)
	old, _ := d.Begin()
	put()
	put()
	is("one is open", 3, 1)
	reader, _ := d.Begin()
	d.Do(reader, api.Op{Kind: api.Get, Key: "x"})
	put()
	stale, _ := d.Begin()
	d.Do(stale, api.Op{Kind: api.Get, Key: "x"})
	put()
	is("three are open", 5, 1)
	d.Commit(99)
	d.Abort(99)
	is("none is ended", 5, 1)
	d.Abort(old)
	is("by an abort", 5, 3)
	if e := d.Commit(reader); e != api.ErrStale {
		t.Fatal(e)
	}
	is("by a commit of a stale one", 5, 4)
	d.Commit(stale)
	is("by the last one", 5, 5)
	full, _ := d.Begin()
	d.Do(full, api.Op{Kind: api.Put, Key: "y", N: 1})
	empty, _ := d.Begin()
	put()
	is("two are open", 6, 5)
	d.Commit(empty)
	is("one is open still", 6, 5)
	k.Room(k.Used())
	if e := d.Commit(full); e != api.ErrFull {
		t.Fatal(e)
	}
	is("by one without room", 6, 6)
}
