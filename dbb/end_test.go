package dbb_test

import (
	"bytes"
	"fmt"
	"math"
	"slices"
	"testing"

	"byroad/api"
	"byroad/cells"
	"byroad/dbb"
	"byroad/journal"
	"byroad/tape"
)

// P14.4
func TestEndNone(t *testing.T) {
	d, k := fresh(t)
	id := begin(t, d)
	for _, no := range []int{0, -1, id + 1, math.MinInt, math.MaxInt} {
		is(t, "Commit", d.Commit(no), api.ErrNone)
		is(t, "Abort", d.Abort(no), api.ErrNone)
	}
	is(t, "Abort", d.Abort(id), api.OK)
	is(t, "Abort", d.Abort(id), api.ErrNone)
	is(t, "Commit", d.Commit(id), api.ErrNone)
	numbers(t, d, 2, 0, nil, nil)
	if k.Used() != 0 {
		t.Error("it is written down")
	}
}

// P14.4: the record has what each key that was written holds in the end, by rising keys, and lasts.
func TestCommit(t *testing.T) {
	d, k := fresh(t)
	one, two := begin(t, d), begin(t, d)
	for _, s := range []string{"put y 1", "put b 2", "add x -5", "put b 4", "put a 9", "del a", "get c"} {
		d.Do(two, op(t, s))
	}
	is(t, "Commit", d.Commit(two), api.OK)
	record2 := record(2, del("a"), put("b", 4), put("x", -5), put("y", 1))
	logs(t, k, record2)
	holds(t, d, row("b", 4), row("x", -5), row("y", 1))
	numbers(t, d, 3, 9, []int{1}, []int{2}) // of each key also what it held ahead, and of c
	b := open(t, k.Crash())
	holds(t, b, row("b", 4), row("x", -5), row("y", 1))
	numbers(t, b, 3, 3, nil, nil)
	tells(t, d, one, "put b 3", 3)
	tells(t, d, one, "put d 3", 3)
	is(t, "Commit", d.Commit(one), api.OK)
	logs(t, k, record2, record(1, put("b", 3), put("d", 3)))
	want := []api.Row{row("b", 4), row("d", 3), row("x", -5), row("y", 1)}
	holds(t, d, want...)
	numbers(t, d, 3, 4, nil, []int{1, 2})
	holds(t, open(t, k.Crash()), want...)
}

// P14.4: one that wrote nothing is committed whatever there is of room and power.
func TestCommitNothing(t *testing.T) {
	d, k := fresh(t)
	one, two := begin(t, d), begin(t, d)
	tells(t, d, one, "get x", 0)
	tells(t, d, one, "del x", 0)
	k.Fuse(0)
	is(t, "Commit", d.Commit(one), api.OK)
	is(t, "Commit", d.Commit(two), api.OK)
	numbers(t, d, 3, 0, nil, []int{1, 2})
	if k.Down() || k.Used() != 0 {
		t.Error("it was tried to write")
	}
}

// P14.4: without room, or with too much to write down, it is aborted.
func TestCommitRefused(t *testing.T) {
	d, k := fresh(t)
	one, two := begin(t, d), begin(t, d)
	tells(t, d, one, "put x 1", 1)
	is(t, "Room", k.Room(10), api.OK)
	is(t, "Commit", d.Commit(one), api.ErrFull)
	numbers(t, d, 3, 0, []int{2}, nil)
	is(t, "Commit", d.Commit(one), api.ErrNone)
	is(t, "Room", k.Room(40000), api.OK)
	tells(t, d, two, "get x", 0)
	for i := range 1000 {
		key := fmt.Sprintf("abcdefghijklm%03d", i)
		tells(t, d, two, "put "+key+" 1", 1)
		tells(t, d, two, "del "+key, 1)
	}
	numbers(t, d, 3, 2001, []int{2}, nil)
	is(t, "Commit", d.Commit(two), api.ErrLong)
	numbers(t, d, 3, 0, nil, nil)
	logs(t, k)
}

// P14.4: also of as many keys as there is room for in a record.
func TestCommitMany(t *testing.T) {
	d, k := fresh(t)
	id := begin(t, d)
	var want []cells.Change
	for i := range 815 {
		key := fmt.Sprintf("abcdefghijklm%03d", i)
		tells(t, d, id, "put "+key+" 1", 1)
		tells(t, d, id, "del "+key, 1)
		want = append(want, del(key))
	}
	tells(t, d, id, "put z 1", 1)
	is(t, "Commit", d.Commit(id), api.OK)
	logs(t, k, record(1, append(want, put("z", 1))...))
	holds(t, open(t, k.Crash()), row("z", 1))
}

// P14.4: without power it stays open, whatever of its record lasts.
func TestCommitDown(t *testing.T) {
	for fuse := range 2 {
		d, k := fresh(t)
		zero, one := begin(t, d), begin(t, d)
		tells(t, d, zero, "put y 7", 7)
		is(t, "Commit", d.Commit(zero), api.OK)
		tells(t, d, one, "put x 1", 1)
		k.Fuse(fuse)
		is(t, "Commit", d.Commit(one), api.ErrDown)
		numbers(t, d, 3, 3, []int{2}, []int{1})
		holds(t, d, row("y", 7))
		tells(t, d, one, "get x", 1)
		tells(t, d, one, "put x 2", 2)
		is(t, "Commit again", d.Commit(one), api.ErrDown)
		fails(t, d, begin(t, d), "get x", api.ErrBusy)
		holds(t, open(t, k.Crash()), row("y", 7))
		if fuse == 0 {
			holds(t, open(t, whole(k)), row("y", 7))
		} else {
			holds(t, open(t, whole(k)), row("x", 1), row("y", 7))
		}
		is(t, "Abort", d.Abort(one), api.OK)
		numbers(t, d, 4, 1, []int{3}, []int{1})
		tells(t, d, 3, "get x", 0)
	}
}

// P14.4: an abort takes one's versions away, and writes nothing.
func TestAbort(t *testing.T) {
	d, k := fresh(t)
	one := begin(t, d)
	tells(t, d, one, "put x 1", 1)
	is(t, "Commit", d.Commit(one), api.OK)
	two, three := begin(t, d), begin(t, d)
	tells(t, d, two, "add x 1", 2)
	tells(t, d, two, "put y 5", 5)
	tells(t, d, three, "put y 6", 6)
	numbers(t, d, 4, 5, []int{2, 3}, []int{1})
	is(t, "Abort", d.Abort(two), api.OK)
	numbers(t, d, 4, 3, []int{3}, []int{1})
	holds(t, d, row("x", 1))
	tells(t, d, three, "get x", 1)
	is(t, "Commit", d.Commit(three), api.OK)
	holds(t, d, row("x", 1), row("y", 6))
	is(t, "Abort", d.Abort(begin(t, d)), api.OK)
	logs(t, k, record(1, put("x", 1)), record(3, put("y", 6)))
}

// P14.4: behind each end what is old is pruned, below the least open one, or below next.
func TestPrune(t *testing.T) {
	d := open(t, saved(t, record(1, put("x", 7))))
	for range 4 {
		begin(t, d)
	}
	tells(t, d, 2, "put x 2", 2)
	is(t, "Commit", d.Commit(2), api.OK)
	tells(t, d, 3, "put x 3", 3)
	is(t, "Commit", d.Commit(3), api.OK)
	tells(t, d, 4, "put x 4", 4)
	numbers(t, d, 5, 4, []int{1, 4}, []int{2, 3})
	tells(t, d, 1, "get x", 7)
	is(t, "Abort", d.Abort(1), api.OK)
	numbers(t, d, 5, 2, []int{4}, []int{2, 3})
	is(t, "Commit", d.Commit(4), api.OK)
	numbers(t, d, 5, 1, nil, []int{2, 3, 4})
	holds(t, d, row("x", 4))
}

// P14.4: a chain without anything stays as long as one that has read it may come to matter.
func TestPruneChains(t *testing.T) {
	d, _ := fresh(t)
	one, two, three := begin(t, d), begin(t, d), begin(t, d)
	tells(t, d, two, "get x", 0)
	tells(t, d, one, "get y", 0)
	tells(t, d, three, "put z 1", 1)
	numbers(t, d, 4, 4, []int{1, 2, 3}, nil)
	is(t, "Commit", d.Commit(two), api.OK)
	numbers(t, d, 4, 4, []int{1, 3}, []int{2})
	tells(t, d, three, "del z", 1)
	is(t, "Commit", d.Commit(three), api.OK)
	numbers(t, d, 4, 4, []int{1}, []int{2, 3})
	four := begin(t, d)
	tells(t, d, four, "get x", 0)
	tells(t, d, four, "get w", 0)
	is(t, "Commit", d.Commit(one), api.OK)
	numbers(t, d, 5, 2, []int{4}, []int{1, 2, 3}) // x and w, that four has read
	five := begin(t, d)
	tells(t, d, five, "get v", 0)
	is(t, "Abort", d.Abort(four), api.OK)
	numbers(t, d, 6, 1, []int{5}, []int{1, 2, 3})
	is(t, "Commit", d.Commit(five), api.OK)
	numbers(t, d, 6, 0, nil, []int{1, 2, 3, 5})
}

// P14.3, P14.4: one that is over still makes late who would write below its reads.
func TestLateBehindTheEnd(t *testing.T) {
	d, _ := fresh(t)
	one, two := begin(t, d), begin(t, d)
	tells(t, d, two, "get x", 0)
	is(t, "Commit", d.Commit(two), api.OK)
	fails(t, d, one, "put x 1", api.ErrLate)
	numbers(t, d, 3, 0, nil, []int{2})
}

// P14.5: a checkpoint says next and the rows.
func TestSave(t *testing.T) {
	d, k := fresh(t)
	one, two := begin(t, d), begin(t, d)
	is(t, "Save", d.Save(), api.ErrState)
	tells(t, d, one, "put y 1", 1)
	tells(t, d, one, "put x -1", -1)
	is(t, "Save", d.Save(), api.ErrState)
	is(t, "Commit", d.Commit(one), api.OK)
	is(t, "Save", d.Save(), api.ErrState)
	is(t, "Abort", d.Abort(two), api.OK)
	is(t, "Room", k.Room(k.Used()), api.OK)
	is(t, "Save", d.Save(), api.ErrFull)
	logs(t, k, record(1, put("x", -1), put("y", 1)))
	is(t, "Room", k.Room(1000), api.OK)
	is(t, "Save", d.Save(), api.OK)
	numbers(t, d, 3, 2, nil, []int{1})
	j, e := journal.Open(k.Crash(), 16)
	is(t, "the journal's Open", e, api.OK)
	if want := record(3, put("x", -1), put("y", 1)); !bytes.Equal(j.State(), want) || j.Len() != 0 {
		t.Errorf("%x, and %d records", j.State(), j.Len())
	}
	b := open(t, k.Crash())
	numbers(t, b, 3, 2, nil, nil)
	holds(t, b, row("x", -1), row("y", 1))
	tells(t, d, begin(t, d), "get x", -1)
}

// P14.5: a site without rows has a state too, and one of as many rows as there may be.
func TestSaveEdges(t *testing.T) {
	d, k := fresh(t)
	is(t, "Save", d.Save(), api.OK)
	if got := log(t, k).State(); !bytes.Equal(got, record(1)) {
		t.Errorf("%x", got)
	}
	numbers(t, open(t, k), 1, 0, nil, nil)
	k = saved(t, nil, record(1, puts(api.MaxRows)...))
	d = open(t, k)
	tells(t, d, begin(t, d), "get k003", 1)
	is(t, "Commit", d.Commit(2), api.OK)
	is(t, "Save", d.Save(), api.OK)
	if got := log(t, k).State(); !bytes.Equal(got, record(3, puts(api.MaxRows)...)) {
		t.Errorf("%x", got)
	}
	if l := open(t, k).Rows(); !slices.Equal(l, d.Rows()) || len(l) != api.MaxRows {
		t.Error(l)
	}
}

// P14.5: without power what lasts is the old log or the new one.
func TestSaveDown(t *testing.T) {
	for fuse := range 4 {
		d, k := fresh(t)
		one := begin(t, d)
		tells(t, d, one, "put x 1", 1)
		is(t, "Commit", d.Commit(one), api.OK)
		k.Fuse(fuse)
		is(t, "Save", d.Save(), api.ErrDown)
		holds(t, d, row("x", 1))
		for _, x := range []func() *dbb.Db{func() *dbb.Db { return open(t, k.Crash()) }, func() *dbb.Db { return open(t, whole(k)) }} {
			b := x()
			numbers(t, b, 2, 1, nil, nil)
			holds(t, b, row("x", 1))
		}
	}
}

// P14.8: of one Commit, with the power failing at each change and with each beginning of what was not synced, what lasts.
func TestLastsAtEachCut(t *testing.T) {
	seen := map[string]int{}
	for fuse := range 4 {
		for keep := range 60 {
			k := disk(t, 1000)
			d, e := dbb.Open(k, 64)
			is(t, "Open", e, api.OK)
			one := begin(t, d)
			tells(t, d, one, "put x 1", 1)
			tells(t, d, one, "put y 1", 1)
			is(t, "Commit", d.Commit(one), api.OK)
			is(t, "Save", d.Save(), api.OK)
			two, three := begin(t, d), begin(t, d)
			tells(t, d, two, "add x 1", 2)
			tells(t, d, three, "del z", 0)
			tells(t, d, two, "del y", 1)
			tells(t, d, three, "put z 9", 9)
			k.Fuse(fuse)
			e = d.Commit(two)
			b := open(t, cut(k, keep))
			got := fmt.Sprint(b.Rows())
			if got != "[{x 2}]" && (e == api.OK || got != "[{x 1} {y 1}]") {
				t.Fatal(fuse, keep, e, got)
			}
			seen[fmt.Sprint(e, got)]++
		}
	}
	for _, want := range []string{"0[{x 2}]", "8[{x 2}]", "8[{x 1} {y 1}]"} {
		if seen[want] == 0 {
			t.Error("never seen:", want)
		}
	}
}

// cut is a tape behind a loss of power that keeps so many bytes of its last segment's tail.
func cut(k *tape.Tape, keep int) *tape.Tape {
	return k.Crash(append(make([]int, max(0, len(k.Segs())-1)), keep)...)
}
