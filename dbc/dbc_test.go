package dbc_test

import (
	"bytes"
	"fmt"
	"math"
	"slices"
	"testing"

	"byroad/api"
	"byroad/cells"
	"byroad/dbc"
	"byroad/journal"
	"byroad/octet"
	"byroad/ops"
	"byroad/tape"
)

const lastTxn = 1 << 30

// disk is a tape of that room.
func disk(t *testing.T, room int) *tape.Tape {
	t.Helper()
	k, e := tape.New(room)
	is(t, "the tape's New", e, api.OK)
	return k
}

// open is the site on a tape.
func open(t *testing.T, k *tape.Tape) *dbc.Db {
	t.Helper()
	d, e := dbc.Open(k, 4000)
	if e != api.OK || d == nil {
		t.Fatal("Open", e)
	}
	return d
}

// fresh is a site on an empty tape, and that.
func fresh(t *testing.T) (*dbc.Db, *tape.Tape) {
	t.Helper()
	k := disk(t, 80000)
	return open(t, k), k
}

// begin opens a transaction.
func begin(t *testing.T, d *dbc.Db) int {
	t.Helper()
	id, e := d.Begin()
	is(t, "Begin", e, api.OK)
	return id
}

// op is one operation's text, as an operation.
func op(t *testing.T, s string) api.Op {
	t.Helper()
	l, at, e := ops.Parse(s)
	if e != api.OK || len(l) != 1 {
		t.Fatal(s, at, e)
	}
	return l[0]
}

// tells fails the test, if an operation does not tell just that.
func tells(t *testing.T, d *dbc.Db, id int, s string, want int64) {
	t.Helper()
	if n, e := d.Do(id, op(t, s)); n != want || e != api.OK {
		t.Fatal(id, s, "tells", n, e, "not", want)
	}
}

// fails fails the test, if an operation does not answer just that error.
func fails(t *testing.T, d *dbc.Db, id int, s string, want api.Errno) {
	t.Helper()
	if n, e := d.Do(id, op(t, s)); n != 0 || e != want {
		t.Fatal(id, s, "tells", n, e, "not", want)
	}
}

// is fails the test, if a call does not answer just that.
func is(t *testing.T, what string, got, want api.Errno) {
	t.Helper()
	if got != want {
		t.Fatal(what, "answers", got, "not", want)
	}
}

// does begins a transaction, does these operations in it, and commits it.
func does(t *testing.T, d *dbc.Db, l ...string) int {
	t.Helper()
	id := begin(t, d)
	for _, s := range l {
		_, e := d.Do(id, op(t, s))
		is(t, s, e, api.OK)
	}
	is(t, "Commit", d.Commit(id), api.OK)
	return id
}

// row is a row.
func row(key string, n int64) api.Row { return api.Row{Key: key, N: n} }

// holds fails the test, if a site does not tell just these rows.
func holds(t *testing.T, d *dbc.Db, want ...api.Row) {
	t.Helper()
	if got := d.Rows(); !slices.Equal(got, want) {
		t.Fatal("rows", got, "not", want)
	}
}

// numbers fails the test, if what a site tells of its transactions is not just that.
func numbers(t *testing.T, d *dbc.Db, next, dead int, opened []int, serial []int) {
	t.Helper()
	if d.Next() != next || d.Dead() != dead || !slices.Equal(d.Opened(), opened) || !slices.Equal(d.Serial(), serial) {
		t.Fatal("next", d.Next(), "dead", d.Dead(), "opened", d.Opened(), "serial", d.Serial())
	}
}

// whole is what a tape would be if all that is on it lasted.
func whole(k *tape.Tape) *tape.Tape {
	return k.Crash(slices.Repeat([]int{api.MaxDisk}, api.MaxSegs)...)
}

// record is the bytes of a record, or of a state.
func record(mark uint64, l ...cells.Change) []byte {
	return octet.Seq(octet.Nat(mark), cells.Encode(l...))
}

// put and del are changes.
func put(key string, n int64) cells.Change { return cells.Change{Key: key, N: n, There: true} }
func del(key string) cells.Change          { return cells.Change{Key: key} }

// puts is the changes that put 1 to so many keys, k000 and so on.
func puts(n int) []cells.Change {
	var l []cells.Change
	for i := range n {
		l = append(l, put(fmt.Sprintf("k%03d", i), 1))
	}
	return l
}

// logs fails the test, if what lasts of a tape is not a log of just these records.
func logs(t *testing.T, k *tape.Tape, want ...[]byte) {
	t.Helper()
	j, e := journal.Open(k.Crash(), 16)
	is(t, "the journal's Open", e, api.OK)
	if got := j.Recs(); !slices.EqualFunc(got, want, bytes.Equal) {
		t.Fatalf("the log has %x not %x", got, want)
	}
}

// saved is a tape with a checkpoint of that state, and records behind it.
func saved(t *testing.T, state []byte, recs ...[]byte) *tape.Tape {
	t.Helper()
	k := disk(t, 80000)
	j, e := journal.Open(k, 16000)
	is(t, "the journal's Open", e, api.OK)
	is(t, "the journal's Save", j.Save(state), api.OK)
	is(t, "the journal's Write", j.Write(recs...), api.OK)
	return k
}

// P17
func TestNil(t *testing.T) {
	for what, d := range map[string]*dbc.Db{"nil": nil, "one that Open did not make": {}} {
		id, e := d.Begin()
		n, f := d.Do(1, api.Op{Kind: api.Get, Key: "x"})
		_, g := d.Do(1, api.Op{})
		if id != 0 || n != 0 {
			t.Error(what, id, n)
		}
		for call, e := range map[string]api.Errno{"Begin": e, "Do": f, "Do of none": g, "Commit": d.Commit(1), "Abort": d.Abort(1), "Save": d.Save()} {
			if e != api.ErrNil {
				t.Error(what, call, e)
			}
		}
		if len(d.Rows())+len(d.Opened())+len(d.Serial())+d.Next()+d.Dead() != 0 {
			t.Error(what, d.Rows(), d.Opened(), d.Serial(), d.Next(), d.Dead())
		}
	}
}

// The chapter's example.
func TestExample(t *testing.T) {
	d, _ := fresh(t)
	begin(t, d)
	begin(t, d)
	tells(t, d, 1, "get x", 0)
	tells(t, d, 2, "put x 5", 5)
	is(t, "Commit", d.Commit(2), api.OK)
	tells(t, d, 1, "put y 1", 1)
	is(t, "Commit", d.Commit(1), api.ErrStale)
	holds(t, d, row("x", 5))
}

// P17.1: the rows and the mark of the heap; next is one more than the mark.
func TestOpen(t *testing.T) {
	state := record(7, put("a", 1), put("b", -2))
	for what, c := range map[string]struct {
		k          *tape.Tape
		rows       []api.Row
		next, dead int
	}{
		"an empty tape":       {disk(t, 0), nil, 1, 0},
		"a state of no bytes": {saved(t, nil), nil, 1, 0},
		"a state":             {saved(t, state), []api.Row{row("a", 1), row("b", -2)}, 8, 0},
		"the greatest mark":   {saved(t, record(lastTxn)), nil, lastTxn + 1, 0},
		"mark 0":              {saved(t, record(0, put("a", 1))), []api.Row{row("a", 1)}, 1, 0},
		"a record":            {saved(t, state, record(9, del("a"), put("~t", 4))), []api.Row{row("b", -2), row("~t", 4)}, 10, 2},
		"a lesser mark":       {saved(t, state, record(3, put("b", 5))), []api.Row{row("a", 1), row("b", 5)}, 8, 1},
		"a record of nothing": {saved(t, nil, record(5), record(4)), nil, 6, 0},
	} {
		t.Log(what)
		for range 2 {
			d := open(t, c.k)
			holds(t, d, c.rows...)
			numbers(t, d, c.next, c.dead, nil, nil)
		}
	}
}

// P17.1: the heap's errors.
func TestOpenRefused(t *testing.T) {
	torn := disk(t, 100)
	is(t, "Append", torn.Append(0, []byte("torn")), api.OK)
	torn.Fuse(0)
	bad := saved(t, nil, []byte("what?"))
	for what, c := range map[string]struct {
		k    *tape.Tape
		seg  int
		want api.Errno
	}{
		"no tape":                {nil, 200, api.ErrNil},
		"no tape, too few":       {nil, 15, api.ErrNil},
		"too few":                {disk(t, 100), 15, api.ErrArg},
		"below 0":                {disk(t, 100), math.MinInt, api.ErrArg},
		"too many":               {disk(t, 100), api.MaxDisk + 1, api.ErrArg},
		"too few, and no record": {bad, 15, api.ErrArg},
		"no power":               {torn, 200, api.ErrDown},
		"no record":              {bad, 200, api.ErrForm},
		"no state":               {saved(t, []byte{9}), 200, api.ErrForm},
		"a mark too great":       {saved(t, nil, record(lastTxn+1)), 200, api.ErrForm},
		"too many rows":          {saved(t, nil, record(1, puts(api.MaxRows+1)...)), 200, api.ErrForm},
	} {
		if d, e := dbc.Open(c.k, c.seg); d != nil || e != c.want {
			t.Error(what, e)
		}
	}
	for _, seg := range []int{16, api.MaxDisk} {
		if d, e := dbc.Open(disk(t, 0), seg); d == nil || e != api.OK {
			t.Error(seg, e)
		}
	}
}

// P17.2
func TestBegin(t *testing.T) {
	d, k := fresh(t)
	numbers(t, d, 1, 0, nil, nil)
	var all []int
	for i := range api.MaxOpen {
		if id := begin(t, d); id != i+1 {
			t.Fatal(i, id)
		}
		all = append(all, i+1)
	}
	if id, e := d.Begin(); id != 0 || e != api.ErrFull {
		t.Error("one more", id, e)
	}
	numbers(t, d, 33, 0, all, nil)
	is(t, "Abort", d.Abort(7), api.OK)
	if id := begin(t, d); id != 33 {
		t.Error("behind an end", id)
	}
	if id, e := d.Begin(); id != 0 || e != api.ErrFull {
		t.Error("one more, again", id, e)
	}
	is(t, "Commit", d.Commit(33), api.OK)
	if id := begin(t, d); id != 34 {
		t.Error("behind a commit", id)
	}
	if k.Used() != 0 {
		t.Error("it is written down")
	}
}

// P17.2: the last number there is.
func TestBeginLast(t *testing.T) {
	k := saved(t, record(lastTxn-2))
	d := open(t, k)
	one, two := begin(t, d), begin(t, d)
	if one != lastTxn-1 || two != lastTxn {
		t.Error(one, two)
	}
	for range 2 {
		if id, e := d.Begin(); id != 0 || e != api.ErrFull {
			t.Error("beyond it", id, e)
		}
		numbers(t, d, lastTxn+1, 0, []int{one, two}, nil)
	}
	tells(t, d, two, "put x 1", 1)
	is(t, "Commit", d.Commit(two), api.OK)
	is(t, "Abort", d.Abort(one), api.OK)
	numbers(t, d, lastTxn+1, 0, nil, []int{two})
	b := open(t, k)
	if id, e := b.Begin(); id != 0 || e != api.ErrFull {
		t.Error("opened again", id, e)
	}
	is(t, "Save", b.Save(), api.OK)
	numbers(t, open(t, k), lastTxn+1, 0, nil, nil)
}

// P17.5: a checkpoint may be taken while transactions are open; they go on.
func TestSave(t *testing.T) {
	d, k := fresh(t)
	does(t, d, "put x 1", "put y 1")
	does(t, d, "put x 2", "del y")
	numbers(t, d, 3, 3, nil, []int{1, 2})
	three, four, five := begin(t, d), begin(t, d), begin(t, d)
	tells(t, d, three, "add x 1", 3)
	tells(t, d, four, "add z 1", 1)
	tells(t, d, five, "get x", 2)
	is(t, "Save", d.Save(), api.OK)
	holds(t, d, row("x", 2))
	numbers(t, d, 6, 0, []int{3, 4, 5}, []int{1, 2})
	logs(t, k)
	b := open(t, k.Crash())
	holds(t, b, row("x", 2))
	numbers(t, b, 3, 0, nil, nil)
	is(t, "Commit", d.Commit(three), api.OK)
	numbers(t, d, 6, 1, []int{4, 5}, []int{1, 2, 3})
	is(t, "Save", d.Save(), api.OK)
	is(t, "Commit", d.Commit(five), api.ErrStale) // of what was committed ahead of a checkpoint
	is(t, "Commit", d.Commit(four), api.OK)
	holds(t, d, row("x", 3), row("z", 1))
	holds(t, open(t, k.Crash()), row("x", 3), row("z", 1))
	numbers(t, open(t, k.Crash()), 5, 0, nil, nil)
}

// P17.5: what the heap's Compact refuses, Save does; nothing is changed.
func TestSaveRefused(t *testing.T) {
	d, k := fresh(t)
	does(t, d, "put x 1")
	does(t, d, "put x 2")
	is(t, "Room", k.Room(k.Used()), api.OK)
	is(t, "Save", d.Save(), api.ErrFull)
	numbers(t, d, 3, 1, nil, []int{1, 2})
	is(t, "Room", k.Room(1000), api.OK)
	k.Fuse(1)
	is(t, "Save", d.Save(), api.ErrDown)
	numbers(t, d, 3, 1, nil, []int{1, 2})
	holds(t, d, row("x", 2))
	for _, x := range []*tape.Tape{k.Crash(), whole(k)} {
		b := open(t, x)
		holds(t, b, row("x", 2))
		numbers(t, b, 3, b.Dead(), nil, nil)
	}
}

// P17.5: rows are those that were committed, by rising keys; Serial is the order of the commits.
func TestTold(t *testing.T) {
	d, _ := fresh(t)
	one, two, three, four := begin(t, d), begin(t, d), begin(t, d), begin(t, d)
	tells(t, d, three, "put y 3", 3)
	tells(t, d, one, "put x 1", 1)
	tells(t, d, four, "put a 4", 4)
	holds(t, d)
	is(t, "Commit", d.Commit(three), api.OK)
	is(t, "Commit", d.Commit(one), api.OK)
	is(t, "Abort", d.Abort(four), api.OK)
	numbers(t, d, 5, 0, []int{2}, []int{3, 1})
	is(t, "Commit", d.Commit(two), api.OK)
	numbers(t, d, 5, 0, nil, []int{3, 1, 2})
	holds(t, d, row("x", 1), row("y", 3))
}

// P17.5: nothing that is told is shared.
func TestShared(t *testing.T) {
	d, _ := fresh(t)
	does(t, d, "put x 1", "put y 2")
	does(t, d)
	begin(t, d)
	begin(t, d)
	clear(d.Rows())
	clear(d.Serial())
	clear(d.Opened())
	_ = append(d.Rows()[:1], row("a", 9))
	_ = append(d.Serial()[:1], 9)
	_ = append(d.Opened()[:1], 9)
	holds(t, d, row("x", 1), row("y", 2))
	numbers(t, d, 5, 0, []int{3, 4}, []int{1, 2})
	l := d.Serial()
	does(t, d)
	if !slices.Equal(l, []int{1, 2}) {
		t.Error("what was told was changed", l)
	}
}
