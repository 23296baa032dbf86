package dba_test

import (
	"math"
	"slices"
	"testing"

	"byroad/api"
	"byroad/journal"
	"byroad/octet"
	"byroad/tape"
	"byroad/undo"
)

// P12.4
func TestEndNone(t *testing.T) {
	d, _ := fresh(t)
	id := begin(t, d)
	for _, no := range []int{0, -1, id + 1, math.MaxInt, math.MinInt} {
		is(t, "Commit", d.Commit(no), api.ErrNone)
		is(t, "Abort", d.Abort(no), api.ErrNone)
	}
	is(t, "Abort", d.Abort(id), api.OK)
	is(t, "Commit", d.Commit(id), api.ErrNone)
	is(t, "Abort", d.Abort(id), api.ErrNone)
	numbers(t, d, 2, 0, nil, nil)
}

// P12.4: a commit is written and synced; one without changes is not written.
func TestCommit(t *testing.T) {
	d, k := fresh(t)
	one, two := begin(t, d), begin(t, d)
	tells(t, d, one, "put x 1", 1)
	tells(t, d, two, "get y", 0)
	is(t, "Commit", d.Commit(two), api.OK)
	logs(t, k, plain(undo.Begin, 1), change(1, "x", nil, 1))
	if k.Synced(0) != 0 {
		t.Error("synced too early")
	}
	is(t, "Commit", d.Commit(one), api.OK)
	logs(t, k, plain(undo.Begin, 1), change(1, "x", nil, 1), plain(undo.Commit, 1))
	if k.Synced(0) != k.Used() {
		t.Error("it is not synced")
	}
	numbers(t, d, 3, 0, nil, []int{2, 1})
	holds(t, d, row("x", 1))
	k.Fuse(0)
	is(t, "Commit", d.Commit(begin(t, d)), api.OK) // nothing is written
	numbers(t, d, 4, 0, nil, []int{2, 1, 3})
}

// P12.4: one that waits may end, too; its lock and its waiting are gone.
func TestEndWaiting(t *testing.T) {
	d, _ := fresh(t)
	one, two, three := begin(t, d), begin(t, d), begin(t, d)
	tells(t, d, one, "put x 1", 1)
	fails(t, d, two, "put x 2", api.ErrBusy)
	fails(t, d, three, "get x", api.ErrBusy)
	is(t, "Commit", d.Commit(two), api.OK)
	is(t, "Commit", d.Commit(one), api.OK)
	tells(t, d, three, "get x", 1)
	if len(d.Edges()) != 0 {
		t.Error(d.Edges())
	}
}

// P12.4: for want of room it is aborted, and what could not be written is owed.
func TestCommitFull(t *testing.T) {
	d, k := fresh(t)
	one, two := begin(t, d), begin(t, d)
	tells(t, d, one, "put x 1", 1)
	tells(t, d, one, "put x 2", 2)
	fails(t, d, two, "get x", api.ErrBusy)
	is(t, "Room", k.Room(k.Used()), api.OK)
	is(t, "Commit", d.Commit(one), api.ErrFull)
	numbers(t, d, 3, 3, []int{2}, nil)
	tells(t, d, two, "get x", 0)
	is(t, "Commit", d.Commit(two), api.OK) // it changed nothing: nothing is written
	numbers(t, d, 3, 3, nil, []int{2})
	holds(t, d)

	// Owed records are tried at each abort, also of one without changes.
	is(t, "Abort", d.Abort(begin(t, d)), api.OK)
	numbers(t, d, 4, 3, nil, []int{2})
	old := []undo.Rec{plain(undo.Begin, 1), change(1, "x", nil, 1), change(1, "x", 1, 2)}
	logs(t, k, old...)
	is(t, "Room", k.Room(1000), api.OK)
	is(t, "Abort", d.Abort(begin(t, d)), api.OK)
	numbers(t, d, 5, 0, nil, []int{2})
	logs(t, k, append(old, back(1, "x", 2, 1), back(1, "x", 1, nil), plain(undo.Abort, 1))...)
}

// P12.4: a commit takes what is owed with it, or nothing is written.
func TestCommitOwed(t *testing.T) {
	d, k := fresh(t)
	one, two := begin(t, d), begin(t, d)
	tells(t, d, one, "put x 1", 1)
	tells(t, d, two, "put y 2", 2)
	room := k.Used() + len(frame(plain(undo.Commit, 2)))
	is(t, "Room", k.Room(room), api.OK)
	is(t, "Abort", d.Abort(one), api.OK)
	numbers(t, d, 3, 2, []int{2}, nil)
	is(t, "Commit", d.Commit(two), api.ErrFull) // there is room for it alone, but not for what is owed ahead of it
	numbers(t, d, 3, 4, nil, nil)
	holds(t, d)
	old := []undo.Rec{plain(undo.Begin, 1), change(1, "x", nil, 1), plain(undo.Begin, 2), change(2, "y", nil, 2)}
	logs(t, k, old...)
	is(t, "Room", k.Room(1000), api.OK)
	three := begin(t, d)
	tells(t, d, three, "put x 3", 3)
	more := []undo.Rec{back(1, "x", 1, nil), plain(undo.Abort, 1), back(2, "y", 2, nil), plain(undo.Abort, 2), plain(undo.Begin, 3), change(3, "x", nil, 3)}
	logs(t, k, append(old, more...)...)
	numbers(t, d, 4, 0, []int{3}, nil)
}

// frame is the bytes that a record has on a tape.
func frame(r undo.Rec) []byte {
	return make([]byte, len(undo.Encode(r))+8)
}

// P12.4: without power it stays open, whatever of its commit lasts.
func TestCommitDown(t *testing.T) {
	for fuse := range 2 {
		d, k := fresh(t)
		zero, one := begin(t, d), begin(t, d)
		tells(t, d, zero, "put y 7", 7)
		is(t, "Commit", d.Commit(zero), api.OK)
		tells(t, d, one, "put x 1", 1)
		k.Fuse(fuse)
		is(t, "Commit", d.Commit(one), api.ErrDown)
		numbers(t, d, 3, 0, []int{2}, []int{1})
		holds(t, d, row("y", 7))
		tells(t, d, one, "get x", 1)
		fails(t, d, one, "put x 2", api.ErrDown)
		is(t, "Commit again", d.Commit(one), api.ErrDown)
		holds(t, open(t, k.Crash()), row("y", 7))
		if fuse == 0 {
			holds(t, open(t, whole(k)), row("y", 7))
		} else {
			holds(t, open(t, whole(k)), row("x", 1), row("y", 7))
		}
		is(t, "Abort", d.Abort(one), api.OK)
		numbers(t, d, 3, 2, nil, []int{1})
		tells(t, d, begin(t, d), "get x", 0)
	}
}

// P12.4: what a commit took with it is owed no more, though it could not be synced.
func TestCommitDownOwed(t *testing.T) {
	d, k := fresh(t)
	one, two := begin(t, d), begin(t, d)
	tells(t, d, one, "put x 1", 1)
	tells(t, d, two, "put y 2", 2)
	is(t, "Room", k.Room(k.Used()), api.OK)
	is(t, "Abort", d.Abort(one), api.OK)
	numbers(t, d, 3, 2, []int{2}, nil)
	is(t, "Room", k.Room(1000), api.OK)
	k.Fuse(1)
	is(t, "Commit", d.Commit(two), api.ErrDown)
	numbers(t, d, 3, 0, []int{2}, nil)
	holds(t, open(t, whole(k)), row("y", 2))
}

// P12.4: an abort takes back from the last change on, and writes that, if it can.
func TestAbort(t *testing.T) {
	d, k := fresh(t)
	one := begin(t, d)
	tells(t, d, one, "put x 1", 1)
	is(t, "Commit", d.Commit(one), api.OK)
	old := log(t, k)
	two := begin(t, d)
	tells(t, d, two, "put y 5", 5)
	tells(t, d, two, "add x 1", 2)
	tells(t, d, two, "del x", 2)
	tells(t, d, two, "put y 6", 6)
	synced := k.Synced(0)
	is(t, "Abort", d.Abort(two), api.OK)
	numbers(t, d, 3, 0, nil, []int{1})
	holds(t, d, row("x", 1))
	logs(t, k, append(old, plain(undo.Begin, 2), change(2, "y", nil, 5), change(2, "x", 1, 2), change(2, "x", 2, nil), change(2, "y", 5, 6),
		back(2, "y", 6, 5), back(2, "x", nil, 2), back(2, "x", 2, 1), back(2, "y", 5, nil), plain(undo.Abort, 2))...)
	if k.Synced(0) != synced {
		t.Error("it is synced")
	}
	used := k.Used()
	three := begin(t, d)
	tells(t, d, three, "get y", 0)
	is(t, "Abort", d.Abort(three), api.OK)
	if k.Used() != used {
		t.Error("one that changed nothing is written down")
	}
}

// P12.5: a checkpoint says next and the rows; nothing is owed behind it.
func TestSave(t *testing.T) {
	d, k := fresh(t)
	one := begin(t, d)
	is(t, "Save", d.Save(), api.ErrState)
	tells(t, d, one, "put x 1", 1)
	is(t, "Save", d.Save(), api.ErrState)
	is(t, "Commit", d.Commit(one), api.OK)
	two := begin(t, d)
	tells(t, d, two, "put x 2", 2)
	is(t, "Room", k.Room(k.Used()), api.OK)
	is(t, "Abort", d.Abort(two), api.OK)
	numbers(t, d, 3, 2, nil, []int{1})
	before := log(t, k)
	is(t, "Save", d.Save(), api.ErrFull)
	numbers(t, d, 3, 2, nil, []int{1})
	logs(t, k, before...)
	is(t, "Room", k.Room(1000), api.OK)
	is(t, "Save", d.Save(), api.OK)
	numbers(t, d, 3, 0, nil, []int{1})
	j, e := journal.Open(k.Crash(), 16)
	is(t, "the journal's Open", e, api.OK)
	if want := octet.Seq(octet.Nat(3), store(t, row("x", 1))); !slices.Equal(j.State(), want) || j.Len() != 0 {
		t.Errorf("%x, and %d records", j.State(), j.Len())
	}
	b := open(t, k.Crash())
	numbers(t, b, 3, 0, nil, nil)
	holds(t, b, row("x", 1))
}

// P12.5: without power nothing else is owed, and what lasts is the old log or the new one.
func TestSaveDown(t *testing.T) {
	for fuse := range 4 {
		d, k := fresh(t)
		one := begin(t, d)
		tells(t, d, one, "put x 1", 1)
		is(t, "Commit", d.Commit(one), api.OK)
		k.Fuse(fuse)
		is(t, "Save", d.Save(), api.ErrDown)
		holds(t, d, row("x", 1))
		for _, x := range []func() int{func() int { return open(t, k.Crash()).Next() }, func() int { return open(t, whole(k)).Next() }} {
			if n := x(); n != 2 {
				t.Error(fuse, n)
			}
		}
		holds(t, open(t, k.Crash()), row("x", 1))
		holds(t, open(t, whole(k)), row("x", 1))
	}
}

// state is the state of the checkpoint on a tape.
func state(t *testing.T, k *tape.Tape) []byte {
	t.Helper()
	j, e := journal.Open(whole(k), 16)
	is(t, "the journal's Open", e, api.OK)
	return j.State()
}

// P12.5: a site of as many rows as there may be is saved, opened and saved again as it was.
func TestSaveFull(t *testing.T) {
	k := saved(t, nil, many(api.MaxRows)...)
	d := open(t, k)
	id := begin(t, d)
	for _, s := range []string{"del k010", "del k011", "del k012", "del k200"} {
		tells(t, d, id, s, 1)
	}
	is(t, "Commit", d.Commit(id), api.OK)
	want := d.Rows()
	is(t, "Save", d.Save(), api.OK)
	first := state(t, k)
	b := open(t, k)
	holds(t, b, want...)
	is(t, "Save", b.Save(), api.OK)
	if len(want) != api.MaxRows-4 || !slices.Equal(state(t, k), first) {
		t.Error(len(want), "rows, or another state")
	}
}

// P12.6: nothing that is told is shared.
func TestShared(t *testing.T) {
	d, _ := fresh(t)
	one := begin(t, d)
	tells(t, d, one, "put x 1", 1)
	is(t, "Commit", d.Commit(one), api.OK)
	two, three := begin(t, d), begin(t, d)
	tells(t, d, two, "put y 1", 1)
	fails(t, d, three, "get y", api.ErrBusy)
	clear(d.Rows())
	clear(d.Opened())
	clear(d.Serial())
	clear(d.Edges())
	_ = append(d.Serial(), 99)
	is(t, "Commit", d.Commit(two), api.OK)
	numbers(t, d, 4, 0, []int{3}, []int{1, 2})
	holds(t, d, row("x", 1), row("y", 1))
	if len(d.Edges()) != 0 {
		t.Error(d.Edges())
	}
}
