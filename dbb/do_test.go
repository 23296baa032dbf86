package dbb_test

import (
	"fmt"
	"math"
	"testing"

	"byroad/api"
	"byroad/dbb"
)

// P14.3
func TestDoNone(t *testing.T) {
	d, _ := fresh(t)
	id := begin(t, d)
	for _, no := range []int{0, -1, id + 1, math.MinInt, math.MaxInt} {
		fails(t, d, no, "put x 1", api.ErrNone)
		fails(t, d, no, "get x", api.ErrNone)
		if _, e := d.Do(no, api.Op{Kind: 9}); e != api.ErrNone {
			t.Error(no, e)
		}
	}
	is(t, "Commit", d.Commit(id), api.OK)
	fails(t, d, id, "get x", api.ErrNone)
	numbers(t, d, 2, 0, nil, []int{1})
}

// P14.3: an operation that may not be; the system's keys may.
func TestDoArg(t *testing.T) {
	d, _ := fresh(t)
	id := begin(t, d)
	for _, x := range []api.Op{{}, {Kind: 7, Key: "x"}, {Kind: -1, Key: "x"}, {Kind: api.Get}, {Kind: api.Get, Key: "x", N: 1}, {Kind: api.Put, Key: "x", Lo: 1}, {Kind: api.Put, Key: "X"}, {Kind: api.Put, Key: "abcdefghijklmnopq"}} {
		if n, e := d.Do(id, x); n != 0 || e != api.ErrArg {
			t.Error(x, n, e)
		}
	}
	numbers(t, d, 2, 0, []int{1}, nil)
	if n, e := d.Do(id, api.Op{Kind: api.Add, Key: "~t", N: 1}); n != 1 || e != api.OK {
		t.Error(n, e)
	}
	is(t, "Commit", d.Commit(id), api.OK)
	holds(t, d, row("~t", 1))
}

// P14.3: what each kind does and tells. Nothing is written down yet.
func TestDoTells(t *testing.T) {
	d, k := fresh(t)
	id := begin(t, d)
	tells(t, d, id, "get x", 0)
	tells(t, d, id, "del x", 0)
	numbers(t, d, 2, 1, []int{1}, nil)
	tells(t, d, id, "add x 0", 0)
	numbers(t, d, 2, 2, []int{1}, nil)
	tells(t, d, id, "add x 0", 0)
	tells(t, d, id, "put x 5", 5)
	tells(t, d, id, "put x 5", 5)
	tells(t, d, id, "min x -2 3", 3)
	tells(t, d, id, "back x -4", -1)
	tells(t, d, id, "get x", -1)
	tells(t, d, id, "del x", -1)
	tells(t, d, id, "get x", 0)
	numbers(t, d, 2, 2, []int{1}, nil)
	tells(t, d, id, "put y 1", 1)
	numbers(t, d, 2, 4, []int{1}, nil)
	holds(t, d)
	if k.Used() != 0 {
		t.Error("it is written down")
	}
	is(t, "Commit", d.Commit(id), api.OK)
	holds(t, d, row("y", 1))
	numbers(t, d, 2, 1, nil, []int{1})
}

// P14.3: a row without a chain is read as what it holds, and has one chain then.
func TestDoBase(t *testing.T) {
	d := open(t, saved(t, record(5, put("x", 7), put("y", 8), put("z", 9))))
	numbers(t, d, 5, 3, nil, nil)
	id := begin(t, d)
	tells(t, d, id, "get x", 7)
	numbers(t, d, 6, 3, []int{5}, nil)
	tells(t, d, id, "put y 1", 1)
	tells(t, d, id, "del z", 9)
	numbers(t, d, 6, 5, []int{5}, nil)
	holds(t, d, row("x", 7), row("y", 8), row("z", 9))
	is(t, "Commit", d.Commit(id), api.OK)
	holds(t, d, row("x", 7), row("y", 1))
	numbers(t, d, 6, 2, nil, []int{5})
	tells(t, d, begin(t, d), "get z", 0) // its chain was gone, and what it held once does not come back
}

// P14.3: an operation's error changes nothing; but what it told was read.
func TestDoEval(t *testing.T) {
	d, _ := fresh(t)
	one, two := begin(t, d), begin(t, d)
	fails(t, d, two, "min x 2 3", api.ErrGuard)
	tells(t, d, two, fmt.Sprint("put y ", math.MaxInt64), math.MaxInt64)
	fails(t, d, two, "add y 1", api.ErrOver)
	fails(t, d, two, fmt.Sprint("min y 1 ", math.MinInt64), api.ErrOver)
	tells(t, d, two, "get y", math.MaxInt64)
	fails(t, d, one, "put x 9", api.ErrLate)
	is(t, "Commit", d.Commit(two), api.OK)
	holds(t, d, row("y", math.MaxInt64))
}

// P14.3: what a lesser one wrote is waited for, but not by a put; what a greater one wrote is not seen.
func TestDoBusy(t *testing.T) {
	d, _ := fresh(t)
	one, two, three := begin(t, d), begin(t, d), begin(t, d)
	tells(t, d, two, "put x 2", 2)
	for _, s := range []string{"get x", "del x", "add x 1", "min x 1 0", "back x 1"} {
		fails(t, d, three, s, api.ErrBusy)
	}
	tells(t, d, three, "put x 3", 3)
	tells(t, d, three, "get x", 3)
	tells(t, d, one, "get x", 0)
	tells(t, d, two, "add x 5", 7)
	is(t, "Commit", d.Commit(three), api.OK)
	holds(t, d, row("x", 3))
	tells(t, d, one, "get x", 0)
	tells(t, d, two, "get x", 7)
	four := begin(t, d)
	tells(t, d, four, "get x", 3)
	is(t, "Commit", d.Commit(two), api.OK)
	holds(t, d, row("x", 3))
	tells(t, d, four, "get x", 3)
	numbers(t, d, 5, 3, []int{1, 4}, []int{2, 3})
	is(t, "Commit", d.Commit(one), api.OK)
	numbers(t, d, 5, 1, []int{4}, []int{1, 2, 3})
}

// P14.3: a put reads nothing.
func TestDoBlind(t *testing.T) {
	d, _ := fresh(t)
	one, two := begin(t, d), begin(t, d)
	tells(t, d, two, "put x 2", 2)
	tells(t, d, one, "put x 1", 1)
	is(t, "Commit", d.Commit(one), api.OK)
	holds(t, d, row("x", 1))
	is(t, "Commit", d.Commit(two), api.OK)
	holds(t, d, row("x", 2))

	// Also one that puts what is there is a version of its own.
	d = open(t, saved(t, record(1, put("x", 7))))
	one, two = begin(t, d), begin(t, d)
	tells(t, d, two, "put x 7", 7)
	numbers(t, d, 3, 2, []int{1, 2}, nil)
	tells(t, d, one, "add x 1", 8)
	is(t, "Commit", d.Commit(one), api.OK)
	is(t, "Commit", d.Commit(two), api.OK)
	holds(t, d, row("x", 7))
}

// P14.3: a writer that comes too late is aborted, with all that it wrote, and what is old is pruned.
func TestDoLate(t *testing.T) {
	for _, s := range []string{"put x 5", "add x 5", "del x", "min x 1 0", "back x 1"} {
		d := open(t, saved(t, record(1, put("x", 7), put("z", 1))))
		one, two := begin(t, d), begin(t, d)
		tells(t, d, one, "put y 1", 1)
		tells(t, d, one, "get w", 0)
		tells(t, d, two, "put z 2", 2)
		is(t, "Commit", d.Commit(two), api.OK)
		three := begin(t, d)
		tells(t, d, three, "get x", 7)
		numbers(t, d, 4, 6, []int{1, 3}, []int{2})
		fails(t, d, one, s, api.ErrLate)
		numbers(t, d, 4, 2, []int{3}, []int{2}) // of x and z one version each
		fails(t, d, one, "get x", api.ErrNone)
		is(t, "Commit", d.Commit(one), api.ErrNone)
		holds(t, d, row("x", 7), row("z", 2))
		tells(t, d, three, "get y", 0)
	}
}

// P14.3: who only reads, or changes nothing, is never too late.
func TestDoNotLate(t *testing.T) {
	d := open(t, saved(t, record(1, put("x", 7))))
	one, two := begin(t, d), begin(t, d)
	tells(t, d, two, "add x 1", 8)
	tells(t, d, two, "get y", 0)
	is(t, "Commit", d.Commit(two), api.OK)
	tells(t, d, one, "get x", 7)
	tells(t, d, one, "add x 0", 7)
	tells(t, d, one, "min x 0 7", 7)
	tells(t, d, one, "del y", 0)
	numbers(t, d, 3, 3, []int{1}, []int{2})
	fails(t, d, one, "put x 7", api.ErrLate) // two has read that
	numbers(t, d, 3, 1, nil, []int{2})
	holds(t, d, row("x", 8))
}

// P14.3: one's own read does not make one's own write late, but that of another one does.
func TestDoReadThenWrite(t *testing.T) {
	d, _ := fresh(t)
	one, two, three := begin(t, d), begin(t, d), begin(t, d)
	tells(t, d, two, "get x", 0)
	tells(t, d, two, "put x 1", 1)
	tells(t, d, one, "get x", 0)
	is(t, "Commit", d.Commit(two), api.OK)
	tells(t, d, three, "add x 1", 2)
	fails(t, d, one, "add x 1", api.ErrLate)
	is(t, "Commit", d.Commit(three), api.OK)
	holds(t, d, row("x", 2))
}

// full is a site of MaxRows rows, k000 to k255, each of which holds 1.
func full(t *testing.T) *dbb.Db {
	t.Helper()
	return open(t, saved(t, nil, record(1, puts(api.MaxRows)...)))
}

// P14.3: no more keys than there may be, of which some version holds something.
func TestDoFull(t *testing.T) {
	d := full(t)
	two, three := begin(t, d), begin(t, d)
	fails(t, d, two, "put x 1", api.ErrFull)
	numbers(t, d, 4, 256, []int{2, 3}, nil)
	fails(t, d, two, "add y 0", api.ErrFull)
	numbers(t, d, 4, 257, []int{2, 3}, nil) // y was read
	tells(t, d, two, "del y", 0)
	tells(t, d, two, "put k000 2", 2)
	tells(t, d, two, "del k000", 2)
	fails(t, d, two, "put x 1", api.ErrFull) // k000 held something earlier
	fails(t, d, three, "put x 1", api.ErrFull)
	tells(t, d, two, "get k255", 1)
	tells(t, d, two, "put k000 3", 3) // its own place
	tells(t, d, two, "del k000", 3)
	tells(t, d, three, "put k000 5", 5)
	is(t, "Abort", d.Abort(three), api.OK)
	three = begin(t, d)
	is(t, "Commit", d.Commit(two), api.OK)
	tells(t, d, three, "put x 1", 1)
	four := begin(t, d)
	fails(t, d, four, "put z 1", api.ErrFull)
	fails(t, d, four, "put k000 1", api.ErrFull)
	tells(t, d, three, "del x", 1)
	tells(t, d, four, "put z 1", 1)
	fails(t, d, three, "put x 1", api.ErrFull)
	is(t, "Abort", d.Abort(four), api.OK)
	tells(t, d, three, "put x 2", 2)
	is(t, "Commit", d.Commit(three), api.OK)
	if l := d.Rows(); len(l) != api.MaxRows || l[0].Key != "k001" || l[255] != row("x", 2) {
		t.Error(len(l), l)
	}
}

// P14.3: what holds something for an earlier one only has its place too, till that is over.
func TestDoFullOld(t *testing.T) {
	d := full(t)
	two, three := begin(t, d), begin(t, d)
	tells(t, d, three, "del k007", 1)
	is(t, "Commit", d.Commit(three), api.OK)
	four := begin(t, d)
	fails(t, d, four, "put x 1", api.ErrFull)
	tells(t, d, two, "get k007", 1)
	tells(t, d, four, "put k007 1", 1)
	tells(t, d, four, "del k007", 1)
	is(t, "Abort", d.Abort(two), api.OK)
	tells(t, d, four, "put x 1", 1)
}

// P14.3: of several errors the first one: the chain's, the operation's own, want of room, too late.
func TestDoOrder(t *testing.T) {
	d := full(t)
	two, three, four := begin(t, d), begin(t, d), begin(t, d)
	tells(t, d, three, "del k001", 1)
	fails(t, d, four, "min k001 1 5", api.ErrBusy)
	fails(t, d, four, "min x 1 5", api.ErrGuard)
	fails(t, d, two, "put x 1", api.ErrFull) // and four has read it
	tells(t, d, three, "get x", 0)
	tells(t, d, four, "get k002", 1)
	fails(t, d, two, "min k002 1 5", api.ErrGuard)
	fails(t, d, two, "min k002 1 2", api.ErrLate)
	numbers(t, d, 5, 258, []int{3, 4}, nil)
}
