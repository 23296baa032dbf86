package dbc_test

import (
	"fmt"
	"math"
	"testing"

	"byroad/api"
	"byroad/cells"
)

// P17.4
func TestEndNone(t *testing.T) {
	d, k := fresh(t)
	id := begin(t, d)
	for _, no := range []int{0, -1, id + 1, math.MinInt, math.MaxInt} {
		is(t, "Commit", d.Commit(no), api.ErrNone)
		is(t, "Abort", d.Abort(no), api.ErrNone)
	}
	is(t, "Abort", d.Abort(id), api.OK)
	is(t, "Abort", d.Abort(id), api.ErrNone)
	is(t, "Commit", d.Commit(id), api.ErrNone)
	two := does(t, d)
	is(t, "Commit", d.Commit(two), api.ErrNone)
	is(t, "Abort", d.Abort(two), api.ErrNone)
	numbers(t, d, 3, 0, nil, []int{2})
	if k.Used() != 0 {
		t.Error("it is written down")
	}
}

// P17.4: the record has each change, by rising keys, with the number as the mark, and lasts.
func TestCommit(t *testing.T) {
	d, k := fresh(t)
	one, two := begin(t, d), begin(t, d)
	for _, s := range []string{"put y 1", "put b 2", "add x -5", "put b 4", "put a 9", "del a", "get c"} {
		_, e := d.Do(two, op(t, s))
		is(t, s, e, api.OK)
	}
	is(t, "Commit", d.Commit(two), api.OK)
	record2 := record(2, del("a"), put("b", 4), put("x", -5), put("y", 1))
	logs(t, k, record2)
	holds(t, d, row("b", 4), row("x", -5), row("y", 1))
	numbers(t, d, 3, 1, []int{1}, []int{2})
	b := open(t, k.Crash())
	holds(t, b, row("b", 4), row("x", -5), row("y", 1))
	numbers(t, b, 3, 1, nil, nil)
	tells(t, d, one, "put b 3", 3) // a blind writer is not stale
	tells(t, d, one, "put d 3", 3)
	is(t, "Commit", d.Commit(one), api.OK)
	logs(t, k, record2, record(1, put("b", 3), put("d", 3)))
	want := []api.Row{row("b", 3), row("d", 3), row("x", -5), row("y", 1)}
	holds(t, d, want...)
	numbers(t, d, 3, 2, nil, []int{2, 1})
	b = open(t, k.Crash())
	holds(t, b, want...)
	numbers(t, b, 3, 2, nil, nil)
}

// P17.4: one without changes is committed whatever there is of room and power, and is no commit for those that read.
func TestCommitNothing(t *testing.T) {
	d, k := fresh(t)
	one, two, three := begin(t, d), begin(t, d), begin(t, d)
	tells(t, d, one, "get x", 0)
	tells(t, d, one, "del x", 0)
	tells(t, d, three, "get x", 0)
	k.Fuse(0)
	is(t, "Commit", d.Commit(one), api.OK)
	is(t, "Commit", d.Commit(two), api.OK)
	is(t, "Commit", d.Commit(three), api.OK)
	numbers(t, d, 4, 0, nil, []int{1, 2, 3})
	if k.Down() || k.Used() != 0 {
		t.Error("it was tried to write")
	}
}

// P17.4: one that has read what was changed since it began is not open any more, and counts for nothing; also one without changes.
func TestCommitStale(t *testing.T) {
	for _, own := range []string{"put y 1", "add x 5", "get x"} {
		d, k := fresh(t)
		does(t, d, "put x 1", "put z 1")
		id := begin(t, d)
		tells(t, d, id, "get z", 1)
		tells(t, d, id, "get x", 1)
		_, e := d.Do(id, op(t, own))
		is(t, own, e, api.OK)
		does(t, d, "put a 1")
		does(t, d, "put x 1") // also a change to the same
		does(t, d, "put b 1")
		k.Fuse(0) // of two errors this one
		is(t, own, d.Commit(id), api.ErrStale)
		if k.Down() {
			t.Error("it was tried to write")
		}
		is(t, "again", d.Commit(id), api.ErrNone)
		fails(t, d, id, "get x", api.ErrNone)
		numbers(t, d, 6, 1, nil, []int{1, 3, 4, 5})
		holds(t, d, row("a", 1), row("b", 1), row("x", 1), row("z", 1))
	}
}

// P17.4: not stale is, whose reads were changed ahead of its beginning, or were deleted, aborted, or only read by others.
func TestCommitNotStale(t *testing.T) {
	d, _ := fresh(t)
	old := begin(t, d) // keeps what is ahead of the others from being forgotten
	does(t, d, "put x 1")
	id, stale, aborted, reader := begin(t, d), begin(t, d), begin(t, d), begin(t, d)
	tells(t, d, id, "add x 1", 2)
	tells(t, d, stale, "add x 9", 10)
	tells(t, d, stale, "get y", 0)
	tells(t, d, aborted, "put x 8", 8)
	tells(t, d, reader, "get x", 1)
	does(t, d, "put y 1")
	is(t, "Commit", d.Commit(stale), api.ErrStale)
	is(t, "Abort", d.Abort(aborted), api.OK)
	is(t, "Commit", d.Commit(reader), api.OK)
	is(t, "Commit", d.Commit(id), api.OK)
	tells(t, d, old, "get y", 1)
	tells(t, d, old, "get z", 0)
	is(t, "Commit", d.Commit(old), api.ErrStale)
	holds(t, d, row("x", 2), row("y", 1))
	numbers(t, d, 8, 1, nil, []int{2, 7, 6, 3})
}

// P17.4: of two that read each other's keys and change their own, the second one is stale.
func TestCommitCrossed(t *testing.T) {
	d, _ := fresh(t)
	one, two := begin(t, d), begin(t, d)
	tells(t, d, one, "get x", 0)
	tells(t, d, one, "put y 1", 1)
	tells(t, d, two, "get y", 0)
	tells(t, d, two, "put x 1", 1)
	is(t, "Commit", d.Commit(one), api.OK)
	is(t, "Commit", d.Commit(two), api.ErrStale)
	holds(t, d, row("y", 1))
}

// P17.4: without room, or with too much to write down, it is not open any more.
func TestCommitRefused(t *testing.T) {
	d, k := fresh(t)
	one, two := begin(t, d), begin(t, d)
	tells(t, d, one, "put x 1", 1)
	tells(t, d, two, "get x", 0)
	is(t, "Room", k.Room(10), api.OK)
	is(t, "Commit", d.Commit(one), api.ErrFull)
	numbers(t, d, 3, 0, []int{2}, nil)
	is(t, "Commit", d.Commit(one), api.ErrNone)
	is(t, "Room", k.Room(80000), api.OK)
	for i := range 1000 {
		key := fmt.Sprintf("abcdefghijklm%03d", i)
		tells(t, d, two, "put "+key+" 1", 1)
		tells(t, d, two, "del "+key, 1)
	}
	is(t, "Commit", d.Commit(two), api.ErrLong)
	numbers(t, d, 3, 0, nil, nil)
	holds(t, d)
	logs(t, k)
	three := begin(t, d)
	tells(t, d, three, "add x 1", 1)
	is(t, "Commit", d.Commit(three), api.OK) // it was not changed by those
	holds(t, d, row("x", 1))
}

// P17.4: who was refused is no commit for those that have read.
func TestCommitRefusedNotStale(t *testing.T) {
	d, k := fresh(t)
	one, two := begin(t, d), begin(t, d)
	tells(t, d, one, "put x 1", 1)
	tells(t, d, two, "add x 3", 3)
	is(t, "Room", k.Room(10), api.OK)
	is(t, "Commit", d.Commit(one), api.ErrFull)
	is(t, "Room", k.Room(1000), api.OK)
	is(t, "Commit", d.Commit(two), api.OK)
	holds(t, d, row("x", 3))
	numbers(t, d, 3, 0, nil, []int{2})
}

// P17.4: as many keys as there is room for in a record.
func TestCommitMany(t *testing.T) {
	d, k := fresh(t)
	id := begin(t, d)
	var want []cells.Change
	for i := range 815 {
		key := fmt.Sprintf("abcdefghijklm%03d", i)
		tells(t, d, id, "put "+key+" 1", 1)
		tells(t, d, id, "del "+key, 1)
		want = append(want, del(key))
	}
	tells(t, d, id, "put z 1", 1)
	is(t, "Commit", d.Commit(id), api.OK)
	logs(t, k, record(1, append(want, put("z", 1))...))
	holds(t, open(t, k.Crash()), row("z", 1))
}

// P17.4: more rows than there may be are refused at the commit, counted one by one by rising keys.
func TestCommitFull(t *testing.T) {
	for _, c := range []struct {
		ops  []string
		want api.Errno
	}{
		{[]string{"put z 1"}, api.ErrFull},
		{[]string{"put a 1"}, api.ErrFull},
		{[]string{"del k000", "put z 1"}, api.OK},
		{[]string{"put z 1", "del k000"}, api.OK}, // not in the order in which they were done
		{[]string{"del k000", "put a 1"}, api.ErrFull},
		{[]string{"del k000", "put a 1", "del a"}, api.OK},
		{[]string{"add k000 5", "put k255 9"}, api.OK},
		{[]string{"put z 1", "del z"}, api.OK},
	} {
		k := saved(t, nil, record(1, puts(api.MaxRows)...))
		d := open(t, k)
		id := begin(t, d)
		for _, s := range c.ops {
			_, e := d.Do(id, op(t, s))
			is(t, s, e, api.OK)
		}
		rows := d.Rows()
		is(t, fmt.Sprint(c.ops), d.Commit(id), c.want)
		if len(d.Opened()) != 0 || (len(d.Serial()) == 1) != (c.want == api.OK) {
			t.Error(c.ops, d.Opened(), d.Serial())
		}
		if c.want != api.OK {
			holds(t, d, rows...)
		}
		holds(t, open(t, k.Crash()), d.Rows()...)
	}
}

// P17.4: without power it stays open, whatever of its record lasts.
func TestCommitDown(t *testing.T) {
	for fuse := range 2 {
		d, k := fresh(t)
		zero, one, two, three := begin(t, d), begin(t, d), begin(t, d), begin(t, d)
		tells(t, d, zero, "put y 7", 7)
		tells(t, d, one, "put x 1", 1)
		tells(t, d, two, "get x", 0)
		tells(t, d, three, "get y", 0)
		is(t, "Commit", d.Commit(zero), api.OK)
		k.Fuse(fuse)
		is(t, "Commit", d.Commit(one), api.ErrDown)
		numbers(t, d, 5, 0, []int{2, 3, 4}, []int{1})
		holds(t, d, row("y", 7))
		tells(t, d, one, "get x", 1)
		tells(t, d, one, "put x 2", 2)
		is(t, "Commit again", d.Commit(one), api.ErrDown)
		tells(t, d, two, "get x", 0)
		is(t, "a reader's Commit", d.Commit(two), api.OK)
		is(t, "a stale one's Commit", d.Commit(three), api.ErrStale)
		numbers(t, d, 5, 0, []int{2}, []int{1, 3})
		holds(t, open(t, k.Crash()), row("y", 7))
		if fuse == 0 {
			holds(t, open(t, whole(k)), row("y", 7))
		} else {
			holds(t, open(t, whole(k)), row("x", 1), row("y", 7))
		}
		is(t, "Abort", d.Abort(one), api.OK)
		numbers(t, d, 5, 0, nil, []int{1, 3})
		tells(t, d, begin(t, d), "get x", 0)
	}
}

// P17.4: an abort takes away what is on the side, and writes nothing.
func TestAbort(t *testing.T) {
	d, k := fresh(t)
	does(t, d, "put x 1")
	used := k.Used()
	two, three := begin(t, d), begin(t, d)
	tells(t, d, two, "add x 1", 2)
	tells(t, d, two, "put y 5", 5)
	tells(t, d, three, "add x 2", 3)
	k.Fuse(0)
	is(t, "Abort", d.Abort(two), api.OK)
	if k.Used() != used || k.Down() {
		t.Error("it is written down")
	}
	k.Fuse(-1)
	numbers(t, d, 4, 0, []int{3}, []int{1})
	is(t, "Commit", d.Commit(three), api.OK)
	holds(t, d, row("x", 3))
}
