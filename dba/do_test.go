package dba_test

import (
	"fmt"
	"math"
	"slices"
	"testing"

	"byroad/api"
	"byroad/dba"
	"byroad/lock"
	"byroad/undo"
)

// P12.3
func TestDoNone(t *testing.T) {
	d, _ := fresh(t)
	id := begin(t, d)
	for _, no := range []int{0, -1, id + 1, math.MinInt, math.MaxInt} {
		fails(t, d, no, "put x 1", api.ErrNone)
		if _, e := d.Do(no, api.Op{Kind: 9}); e != api.ErrNone {
			t.Error(no, e)
		}
	}
	is(t, "Commit", d.Commit(id), api.OK)
	fails(t, d, id, "get x", api.ErrNone)
}

// P12.3: an operation that may not be; the system's keys may.
func TestDoArg(t *testing.T) {
	d, k := fresh(t)
	id := begin(t, d)
	for _, x := range []api.Op{{}, {Kind: 7, Key: "x"}, {Kind: -1, Key: "x"}, {Kind: api.Get}, {Kind: api.Get, Key: "x", N: 1}, {Kind: api.Put, Key: "x", Lo: 1}, {Kind: api.Put, Key: "X"}, {Kind: api.Put, Key: "abcdefghijklmnopq"}} {
		if n, e := d.Do(id, x); n != 0 || e != api.ErrArg {
			t.Error(x, n, e)
		}
	}
	if k.Used() != 0 || len(d.Edges()) != 0 {
		t.Error(k.Used(), d.Edges())
	}
	if n, e := d.Do(id, api.Op{Kind: api.Add, Key: "~t", N: 1}); n != 1 || e != api.OK {
		t.Error(n, e)
	}
	is(t, "Commit", d.Commit(id), api.OK)
	holds(t, d, row("~t", 1))
}

// P12.3: what each kind does and tells, and which of them are written.
func TestDoTells(t *testing.T) {
	d, k := fresh(t)
	id := begin(t, d)
	tells(t, d, id, "get x", 0)
	tells(t, d, id, "del x", 0)
	logs(t, k)
	tells(t, d, id, "add x 0", 0)
	tells(t, d, id, "add x 0", 0)
	tells(t, d, id, "put x 0", 0)
	tells(t, d, id, "put x 5", 5)
	tells(t, d, id, "put x 5", 5)
	tells(t, d, id, "min x -2 3", 3)
	tells(t, d, id, "back x -4", -1)
	tells(t, d, id, "get x", -1)
	tells(t, d, id, "del x", -1)
	tells(t, d, id, "get x", 0)
	tells(t, d, id, "put y 1", 1)
	logs(t, k, plain(undo.Begin, 1), change(1, "x", nil, 0), change(1, "x", 0, 5), change(1, "x", 5, 3), change(1, "x", 3, -1), change(1, "x", -1, nil), change(1, "y", nil, 1))
	if k.Synced(0) != 0 {
		t.Error("it is synced")
	}
	holds(t, d)
	is(t, "Commit", d.Commit(id), api.OK)
	holds(t, d, row("y", 1))
}

// P12.3: an operation's error changes nothing; its key stays locked.
func TestDoEval(t *testing.T) {
	d, k := fresh(t)
	id, other := begin(t, d), begin(t, d)
	tells(t, d, id, "put z 1", 1)
	before := log(t, k)
	fails(t, d, id, "min x 2 3", api.ErrGuard)
	tells(t, d, id, fmt.Sprint("put y ", math.MaxInt64), math.MaxInt64)
	fails(t, d, id, "add y 1", api.ErrOver)
	fails(t, d, id, fmt.Sprint("min y 1 ", math.MinInt64), api.ErrOver)
	logs(t, k, append(before, undo.Rec{Kind: undo.Change, Txn: 1, Change: change(1, "y", nil, math.MaxInt64).Change})...)
	fails(t, d, other, "get x", api.ErrBusy)
	tells(t, d, id, "get x", 0)
	is(t, "Commit", d.Commit(id), api.OK)
	holds(t, d, row("y", math.MaxInt64), row("z", 1))
}

// P12.3: readers go together, whoever changes a key has it alone; whoever waits may ask for just that.
func TestDoLocks(t *testing.T) {
	d, _ := fresh(t)
	one, two, three := begin(t, d), begin(t, d), begin(t, d)
	tells(t, d, one, "get x", 0)
	tells(t, d, two, "get x", 0)
	fails(t, d, three, "put x 1", api.ErrBusy)
	fails(t, d, three, "put x 2", api.ErrBusy)
	fails(t, d, three, "add x 2", api.ErrBusy)
	fails(t, d, three, "get x", api.ErrState)
	fails(t, d, three, "put y 2", api.ErrState)
	if got := d.Edges(); !slices.Equal(got, []lock.Edge{{From: 3, To: 1}, {From: 3, To: 2}}) {
		t.Error(got)
	}
	is(t, "Commit", d.Commit(two), api.OK)
	fails(t, d, three, "put x 1", api.ErrBusy)
	tells(t, d, one, "put x 7", 7) // a raise, for no other one holds it
	is(t, "Commit", d.Commit(one), api.OK)
	if len(d.Edges()) != 0 {
		t.Error(d.Edges())
	}
	tells(t, d, three, "add x 1", 8)
	is(t, "Commit", d.Commit(three), api.OK)
	numbers(t, d, 4, 0, nil, []int{2, 1, 3})
	holds(t, d, row("x", 8))
}

// P12.3: also what changes nothing asks for its key alone, but a get.
func TestDoMine(t *testing.T) {
	for _, s := range []string{"put x 3", "del x", "add x 0", "min x 0 0", "back x 0"} {
		d, _ := fresh(t)
		one, two := begin(t, d), begin(t, d)
		d.Do(one, op(t, s))
		fails(t, d, two, "get x", api.ErrBusy)
	}
}

// P12.3: the victim is another one; behind its end the key is had.
func TestVictimOther(t *testing.T) {
	d, k := fresh(t)
	one, two := begin(t, d), begin(t, d)
	tells(t, d, one, "put x 1", 1)
	tells(t, d, two, "put y 2", 2)
	fails(t, d, two, "put x 3", api.ErrBusy)
	tells(t, d, one, "add y 5", 5)
	numbers(t, d, 3, 0, []int{1}, nil)
	logs(t, k, plain(undo.Begin, 1), change(1, "x", nil, 1), plain(undo.Begin, 2), change(2, "y", nil, 2), back(2, "y", 2, nil), plain(undo.Abort, 2), change(1, "y", nil, 5))
	fails(t, d, two, "get x", api.ErrNone)
	is(t, "Commit", d.Commit(one), api.OK)
	holds(t, d, row("x", 1), row("y", 5))
}

// P12.3: behind a victim's end the one that asks may have to wait, still.
func TestVictimAndWait(t *testing.T) {
	d, _ := fresh(t)
	one, two, three := begin(t, d), begin(t, d), begin(t, d)
	tells(t, d, one, "put a 1", 1)
	tells(t, d, two, "get b", 0)
	tells(t, d, three, "get b", 0)
	fails(t, d, three, "get a", api.ErrBusy)
	fails(t, d, one, "put b 2", api.ErrBusy)
	numbers(t, d, 4, 0, []int{1, 2}, nil)
	if got := d.Edges(); !slices.Equal(got, []lock.Edge{{From: 1, To: 2}}) {
		t.Error(got)
	}
	is(t, "Abort", d.Abort(two), api.OK)
	tells(t, d, one, "put b 2", 2)
}

// P12.3: several victims by one operation, the greatest first, till the one that asks has its key.
func TestVictims(t *testing.T) {
	d, _ := fresh(t)
	var all []int
	for range 5 {
		all = append(all, begin(t, d))
	}
	tells(t, d, 1, "put a 1", 1)
	for _, id := range all[1:] {
		tells(t, d, id, "get b", 0)
	}
	for _, id := range []int{3, 2, 5} {
		fails(t, d, id, "get a", api.ErrBusy)
	}
	fails(t, d, 1, "put b 2", api.ErrBusy) // 4 holds it and waits for nobody
	numbers(t, d, 6, 0, []int{1, 4}, nil)

	d, _ = fresh(t)
	for range 4 {
		begin(t, d)
	}
	tells(t, d, 2, "put a 1", 1)
	for _, id := range []int{1, 3, 4} {
		tells(t, d, id, "get b", 0)
		fails(t, d, id, "get a", api.ErrBusy)
	}
	fails(t, d, 2, "put b 2", api.ErrVictim) // 4 and 3 are victims ahead of it
	numbers(t, d, 5, 0, []int{1}, nil)
	tells(t, d, 1, "get a", 0)
}

// P12.3: two that want to raise the same key.
func TestVictimRaise(t *testing.T) {
	d, _ := fresh(t)
	one, two := begin(t, d), begin(t, d)
	tells(t, d, one, "get x", 0)
	tells(t, d, two, "get x", 0)
	fails(t, d, one, "put x 1", api.ErrBusy)
	fails(t, d, two, "put x 2", api.ErrVictim)
	tells(t, d, one, "put x 1", 1)
}

// full is a site of MaxRows rows, k000 to k255, each of which holds 1.
func full(t *testing.T) *dba.Db {
	t.Helper()
	return open(t, saved(t, nil, many(api.MaxRows)...))
}

// P12.3: no more rows than there may be, of those that hold something and those that open transactions changed.
func TestDoFull(t *testing.T) {
	d := full(t)
	one, two := begin(t, d), begin(t, d)
	fails(t, d, one, "put x 1", api.ErrFull)
	fails(t, d, one, "add x 0", api.ErrFull)
	tells(t, d, one, "get x", 0)
	tells(t, d, one, "del x", 0)
	tells(t, d, one, "put k000 2", 2)
	tells(t, d, one, "del k000", 2)
	fails(t, d, one, "put x 1", api.ErrFull) // what it deleted may come back
	fails(t, d, two, "put y 1", api.ErrFull)
	tells(t, d, one, "put k000 3", 3) // its own place
	tells(t, d, one, "del k000", 3)
	numbers(t, d, 4, 0, []int{2, 3}, nil)
	is(t, "Commit", d.Commit(one), api.OK)
	tells(t, d, two, "put y 1", 1)
	three := begin(t, d)
	fails(t, d, three, "put z 1", api.ErrFull)
	is(t, "Abort", d.Abort(two), api.OK)
	tells(t, d, three, "put z 1", 1)
	tells(t, d, three, "del z", 1)
	four := begin(t, d)
	fails(t, d, four, "put a 1", api.ErrFull) // z holds nothing, but an open one changed it
	tells(t, d, three, "put z 2", 2)
	is(t, "Commit", d.Commit(three), api.OK)
	if l := d.Rows(); len(l) != api.MaxRows || l[0].Key != "k001" || l[255] != row("z", 2) {
		t.Error(len(l), l)
	}
}

// P12.3: of several errors the first one: the lock, the operation's own, want of rows, the journal's.
func TestDoOrder(t *testing.T) {
	k := saved(t, nil, many(api.MaxRows)...)
	d := open(t, k)
	one, two := begin(t, d), begin(t, d)
	fails(t, d, one, "min x 1 5", api.ErrGuard)
	k.Fuse(0)
	fails(t, d, one, "put x 1", api.ErrFull)
	fails(t, d, two, "min x 1 5", api.ErrBusy)
	if k.Down() {
		t.Error("it was tried to write")
	}
	fails(t, d, one, "put k000 5", api.ErrDown)
	tells(t, d, one, "put k000 1", 1)
	tells(t, d, one, "get k000", 1)
}

// P12.3: where nothing can be written, nothing is changed; a begin is written with the first change that is.
func TestDoRefused(t *testing.T) {
	d, k := fresh(t)
	one := begin(t, d)
	is(t, "Room", k.Room(10), api.OK)
	fails(t, d, one, "put x 1", api.ErrFull)
	logs(t, k)
	tells(t, d, one, "get x", 0)
	fails(t, d, begin(t, d), "get x", api.ErrBusy) // it has the key
	is(t, "Room", k.Room(1000), api.OK)
	tells(t, d, one, "put x 2", 2)
	is(t, "Room", k.Room(10), api.OK)
	fails(t, d, one, "put x 3", api.ErrFull)
	fails(t, d, one, "del x", api.ErrFull)
	tells(t, d, one, "get x", 2)
	is(t, "Room", k.Room(1000), api.OK)
	tells(t, d, one, "del x", 2)
	logs(t, k, plain(undo.Begin, 1), change(1, "x", nil, 2), change(1, "x", 2, nil))
	k.Fuse(0)
	fails(t, d, one, "put x 4", api.ErrDown)
	numbers(t, d, 3, 0, []int{1, 2}, nil)
	tells(t, d, one, "get x", 0)
}
