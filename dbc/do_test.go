package dbc_test

import (
	"fmt"
	"math"
	"testing"

	"byroad/api"
)

// P17.3
func TestDoNone(t *testing.T) {
	d, _ := fresh(t)
	id := begin(t, d)
	for _, no := range []int{0, -1, id + 1, math.MinInt, math.MaxInt} {
		fails(t, d, no, "put x 1", api.ErrNone)
		fails(t, d, no, "get x", api.ErrNone)
		if n, e := d.Do(no, api.Op{Kind: 9}); n != 0 || e != api.ErrNone {
			t.Error(no, n, e)
		}
	}
	is(t, "Commit", d.Commit(id), api.OK)
	fails(t, d, id, "get x", api.ErrNone)
	two := begin(t, d)
	is(t, "Abort", d.Abort(two), api.OK)
	fails(t, d, two, "get x", api.ErrNone)
	numbers(t, d, 3, 0, nil, []int{1})
}

// P17.3: an operation that may not be reads and changes nothing; the system's keys may.
func TestDoArg(t *testing.T) {
	d, k := fresh(t)
	id := begin(t, d)
	for _, x := range []api.Op{{}, {Kind: 7, Key: "x"}, {Kind: -1, Key: "x"}, {Kind: api.Get}, {Kind: api.Get, Key: "x", N: 1}, {Kind: api.Add, Key: "x", N: 1, Lo: 1}, {Kind: api.Put, Key: "x", Lo: 1}, {Kind: api.Put, Key: "X"}, {Kind: api.Put, Key: "~"}, {Kind: api.Put, Key: "abcdefghijklmnopq"}} {
		if n, e := d.Do(id, x); n != 0 || e != api.ErrArg {
			t.Error(x, n, e)
		}
	}
	does(t, d, "put x 5")
	if n, e := d.Do(id, api.Op{Kind: api.Add, Key: "~t", N: 1}); n != 1 || e != api.OK {
		t.Error(n, e)
	}
	is(t, "Commit", d.Commit(id), api.OK)
	holds(t, d, row("x", 5), row("~t", 1))
	logs(t, k, record(2, put("x", 5)), record(1, put("~t", 1)))
}

// P17.3: what each kind does and tells. Nothing is written down yet, and nobody else sees it.
func TestDoTells(t *testing.T) {
	d, k := fresh(t)
	id, other := begin(t, d), begin(t, d)
	for _, c := range []struct {
		op   string
		want int64
	}{
		{"get x", 0}, {"del x", 0}, {"add x 0", 0}, {"add x 0", 0}, {"put x 5", 5}, {"put x 5", 5}, {"min x -2 3", 3}, {"back x -4", -1}, {"get x", -1}, {"del x", -1}, {"get x", 0}, {"del x", 0}, {"back x 2", 2},
		{fmt.Sprint("put y ", math.MaxInt64), math.MaxInt64}, {"back y 1", math.MinInt64}, {fmt.Sprint("min y 0 ", math.MinInt64), math.MinInt64},
	} {
		tells(t, d, id, c.op, c.want)
		tells(t, d, other, "get x", 0)
		tells(t, d, other, "get y", 0)
	}
	if k.Used() != 0 {
		t.Error("it is written down")
	}
	holds(t, d)
	is(t, "Commit", d.Commit(id), api.OK)
	holds(t, d, row("x", 2), row("y", math.MinInt64))
	logs(t, k, record(1, put("x", 2), put("y", math.MinInt64)))
	is(t, "Commit", d.Commit(other), api.ErrStale)
}

// P17.3: what it sees is its own change, else what the heap holds now, also what was committed since it began.
func TestDoSees(t *testing.T) {
	d, _ := fresh(t)
	does(t, d, "put x 1", "put y 1")
	id := begin(t, d)
	tells(t, d, id, "del y", 1)
	does(t, d, "put x 2", "put y 2")
	tells(t, d, id, "get x", 2)
	tells(t, d, id, "get y", 0)
	tells(t, d, id, "add y 7", 7)
	tells(t, d, id, "add x 1", 3)
	does(t, d, "put x 9")
	tells(t, d, id, "get x", 3)
	is(t, "Commit", d.Commit(id), api.ErrStale) // x was changed since it began, though ahead of its read
	holds(t, d, row("x", 9), row("y", 2))
}

// P17.3: an operation's error changes nothing of what is seen; what it has read, it has read.
func TestDoEval(t *testing.T) {
	d, k := fresh(t)
	does(t, d, "put x 1", fmt.Sprint("put y ", math.MaxInt64))
	id := begin(t, d)
	fails(t, d, id, "min x 2 4", api.ErrGuard)
	fails(t, d, id, "min z -1 0", api.ErrGuard)
	fails(t, d, id, "add y 1", api.ErrOver)
	fails(t, d, id, fmt.Sprint("min y 1 ", math.MinInt64), api.ErrOver)
	tells(t, d, id, "get x", 1)
	tells(t, d, id, "get z", 0)
	tells(t, d, id, "get y", math.MaxInt64)
	tells(t, d, id, "put x 3", 3)
	fails(t, d, id, "min x -1 3", api.ErrGuard)
	tells(t, d, id, "get x", 3)
	is(t, "Commit", d.Commit(id), api.OK)
	logs(t, k, record(1, put("x", 1), put("y", math.MaxInt64)), record(2, put("x", 3)))
	for _, s := range []string{"min x 0 99", "min a -9 0"} {
		id := begin(t, d)
		fails(t, d, id, s, api.ErrGuard)
		does(t, d, "put x 3", "put a 3")
		is(t, s, d.Commit(id), api.ErrStale)
	}
}

// P17.3: which operations read, and which have a change on the side, told by what becomes of two that meet.
func TestDoReads(t *testing.T) {
	for _, c := range []struct {
		ops  []string
		want api.Errno
	}{
		{[]string{"get x"}, api.ErrStale},
		{[]string{"del x"}, api.ErrStale},
		{[]string{"add x 1"}, api.ErrStale},
		{[]string{"add x 0"}, api.ErrStale},
		{[]string{"min x 1 0"}, api.ErrStale},
		{[]string{"back x 0"}, api.ErrStale},
		{[]string{"put x 7"}, api.OK},
		{[]string{"put x 1"}, api.OK}, // what it holds already
		{[]string{"put x 7", "get x", "add x 1", "del x", "back x 4"}, api.OK},
		{[]string{"get x", "put x 7"}, api.ErrStale},
		{[]string{"put x 7", "get y"}, api.OK},
		{[]string{"put x 7", "get z"}, api.ErrStale},
		{[]string{"del y", "del y", "put y 1"}, api.OK},
		{nil, api.OK},
	} {
		d, _ := fresh(t)
		does(t, d, "put x 1", "put z 1")
		id := begin(t, d)
		for _, s := range c.ops {
			_, e := d.Do(id, op(t, s))
			is(t, s, e, api.OK)
		}
		does(t, d, "del x", "put z 1")
		is(t, fmt.Sprint(c.ops), d.Commit(id), c.want)
	}
}

// P17.3: what is on the side, told by what is written down: also what comes to what the heap holds.
func TestDoSide(t *testing.T) {
	for _, c := range []struct {
		ops  []string
		want []byte
	}{
		{[]string{"get x", "get y", "del y", "add x 0", "min x 0 1", "back x 0"}, nil},
		{[]string{"put x 1"}, record(2, put("x", 1))},
		{[]string{"del x"}, record(2, del("x"))},
		{[]string{"add y 0"}, record(2, put("y", 0))},
		{[]string{"add x 4", "back x -4"}, record(2, put("x", 1))},
		{[]string{"put y 1", "del y"}, record(2, del("y"))},
		{[]string{"del x", "put x 1"}, record(2, put("x", 1))},
		{[]string{"put y 1", "add x 2", "put a 3", "put y 4", "del b"}, record(2, put("a", 3), put("x", 3), put("y", 4))},
	} {
		d, k := fresh(t)
		one := record(1, put("x", 1))
		does(t, d, "put x 1")
		does(t, d, c.ops...)
		if c.want == nil {
			logs(t, k, one)
		} else {
			logs(t, k, one, c.want)
		}
		numbers(t, d, 3, d.Dead(), nil, []int{1, 2})
	}
}

// P17.3, P17.8: whatever others have under way, nobody waits; there is no end of what may stand on the side.
func TestDoMany(t *testing.T) {
	d, _ := fresh(t)
	one, two := begin(t, d), begin(t, d)
	for i := range 2 * api.MaxRows {
		tells(t, d, one, fmt.Sprintf("put k%03d 1", i), 1)
		tells(t, d, two, fmt.Sprintf("get k%03d", i), 0)
		tells(t, d, two, fmt.Sprintf("add k%03d 2", i), 2)
	}
	holds(t, d)
	for i := range 2 * api.MaxRows {
		tells(t, d, one, fmt.Sprintf("get k%03d", i), 1)
	}
}
