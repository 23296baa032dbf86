package dbb_test

import (
	"bytes"
	"fmt"
	"math"
	"slices"
	"testing"

	"byroad/api"
	"byroad/cells"
	"byroad/dbb"
	"byroad/journal"
	"byroad/octet"
	"byroad/ops"
	"byroad/tape"
)

const lastTxn = 1 << 30

// disk is a tape of that room.
func disk(t *testing.T, room int) *tape.Tape {
	t.Helper()
	k, e := tape.New(room)
	is(t, "the tape's New", e, api.OK)
	return k
}

// open is the site on a tape.
func open(t *testing.T, k *tape.Tape) *dbb.Db {
	t.Helper()
	d, e := dbb.Open(k, 4000)
	if e != api.OK || d == nil {
		t.Fatal("Open", e)
	}
	return d
}

// fresh is a site on an empty tape, and that.
func fresh(t *testing.T) (*dbb.Db, *tape.Tape) {
	t.Helper()
	k := disk(t, 40000)
	return open(t, k), k
}

// begin opens a transaction.
func begin(t *testing.T, d *dbb.Db) int {
	t.Helper()
	id, e := d.Begin()
	is(t, "Begin", e, api.OK)
	return id
}

// op is one operation's text, as an operation.
func op(t *testing.T, s string) api.Op {
	t.Helper()
	l, at, e := ops.Parse(s)
	if e != api.OK || len(l) != 1 {
		t.Fatal(s, at, e)
	}
	return l[0]
}

// tells fails the test, if an operation does not tell just that.
func tells(t *testing.T, d *dbb.Db, id int, s string, want int64) {
	t.Helper()
	if n, e := d.Do(id, op(t, s)); n != want || e != api.OK {
		t.Fatal(id, s, "tells", n, e)
	}
}

// fails fails the test, if an operation does not answer just that error.
func fails(t *testing.T, d *dbb.Db, id int, s string, want api.Errno) {
	t.Helper()
	if n, e := d.Do(id, op(t, s)); n != 0 || e != want {
		t.Fatal(id, s, "tells", n, e, "not", want)
	}
}

// is fails the test, if a call does not answer just that.
func is(t *testing.T, what string, got, want api.Errno) {
	t.Helper()
	if got != want {
		t.Fatal(what, "answers", got, "not", want)
	}
}

// row is a row.
func row(key string, n int64) api.Row { return api.Row{Key: key, N: n} }

// holds fails the test, if a site does not tell just these rows.
func holds(t *testing.T, d *dbb.Db, want ...api.Row) {
	t.Helper()
	if got := d.Rows(); !slices.Equal(got, want) {
		t.Fatal("rows", got, "not", want)
	}
}

// numbers fails the test, if what a site tells of its transactions is not just that.
func numbers(t *testing.T, d *dbb.Db, next, versions int, opened []int, serial []int) {
	t.Helper()
	if d.Next() != next || d.Versions() != versions || !slices.Equal(d.Opened(), opened) || !slices.Equal(d.Serial(), serial) {
		t.Fatal("next", d.Next(), "versions", d.Versions(), "opened", d.Opened(), "serial", d.Serial())
	}
}

// whole is what a tape would be if all that is on it lasted.
func whole(k *tape.Tape) *tape.Tape {
	return k.Crash(slices.Repeat([]int{api.MaxDisk}, api.MaxSegs)...)
}

// record is the bytes of a record, or of a state.
func record(n uint64, l ...cells.Change) []byte {
	return octet.Seq(octet.Nat(n), cells.Encode(l...))
}

// put and del are changes.
func put(key string, n int64) cells.Change { return cells.Change{Key: key, N: n, There: true} }
func del(key string) cells.Change          { return cells.Change{Key: key} }

// puts is the changes that put 1 to so many keys, k000 and so on.
func puts(n int) []cells.Change {
	var l []cells.Change
	for i := range n {
		l = append(l, put(fmt.Sprintf("k%03d", i), 1))
	}
	return l
}

// log is the journal on a tape.
func log(t *testing.T, k *tape.Tape) *journal.Journal {
	t.Helper()
	j, e := journal.Open(whole(k), 16)
	is(t, "the journal's Open", e, api.OK)
	return j
}

// logs fails the test, if the records on a tape are not just these.
func logs(t *testing.T, k *tape.Tape, want ...[]byte) {
	t.Helper()
	if got := log(t, k).Recs(); !slices.EqualFunc(got, want, bytes.Equal) {
		t.Fatalf("the log has %x not %x", got, want)
	}
}

// saved is a tape with a checkpoint of that state, and records behind it.
func saved(t *testing.T, state []byte, recs ...[]byte) *tape.Tape {
	t.Helper()
	k := disk(t, 80000)
	j, e := journal.Open(k, 16000)
	is(t, "the journal's Open", e, api.OK)
	is(t, "the journal's Save", j.Save(state), api.OK)
	is(t, "the journal's Write", j.Write(recs...), api.OK)
	return k
}

// P14
func TestNil(t *testing.T) {
	for what, d := range map[string]*dbb.Db{"nil": nil, "one that Open did not make": {}} {
		id, e := d.Begin()
		n, f := d.Do(1, api.Op{Kind: api.Get, Key: "x"})
		if id != 0 || n != 0 {
			t.Error(what, id, n)
		}
		for call, e := range map[string]api.Errno{"Begin": e, "Do": f, "Commit": d.Commit(1), "Abort": d.Abort(1), "Save": d.Save()} {
			if e != api.ErrNil {
				t.Error(what, call, e)
			}
		}
		if len(d.Rows())+len(d.Opened())+len(d.Serial())+d.Next()+d.Versions() != 0 {
			t.Error(what, d.Rows(), d.Opened(), d.Serial(), d.Next(), d.Versions())
		}
	}
}

// The chapter's example.
func TestExample(t *testing.T) {
	d, _ := fresh(t)
	begin(t, d)
	begin(t, d)
	tells(t, d, 2, "get x", 0)
	fails(t, d, 1, "put x 5", api.ErrLate)
	tells(t, d, 2, "put y 1", 1)
	begin(t, d)
	fails(t, d, 3, "get y", api.ErrBusy)
	is(t, "Commit", d.Commit(2), api.OK)
	tells(t, d, 3, "get y", 1)
}

// P14.2
func TestBegin(t *testing.T) {
	d, k := fresh(t)
	numbers(t, d, 1, 0, nil, nil)
	var all []int
	for i := range api.MaxOpen {
		if id := begin(t, d); id != i+1 {
			t.Fatal(i, id)
		}
		all = append(all, i+1)
	}
	if id, e := d.Begin(); id != 0 || e != api.ErrFull {
		t.Error("one more", id, e)
	}
	numbers(t, d, 33, 0, all, nil)
	is(t, "Abort", d.Abort(7), api.OK)
	if id := begin(t, d); id != 33 {
		t.Error("behind an end", id)
	}
	if k.Used() != 0 {
		t.Error("it is written down")
	}
}

// P14.2: the last number there is.
func TestBeginLast(t *testing.T) {
	k := saved(t, record(lastTxn))
	d := open(t, k)
	id := begin(t, d)
	if id != lastTxn {
		t.Error(id)
	}
	tells(t, d, id, "get y", 0)
	tells(t, d, id, "put x 1", 1)
	is(t, "Commit", d.Commit(id), api.OK)
	if id, e := d.Begin(); id != 0 || e != api.ErrFull {
		t.Error("beyond it", id, e)
	}
	numbers(t, d, lastTxn+1, 1, nil, []int{lastTxn})
	numbers(t, open(t, k), lastTxn+1, 1, nil, nil)
	is(t, "Save", d.Save(), api.OK)
	numbers(t, open(t, k), lastTxn+1, 1, nil, nil)
}

// P14.1: next is what the state says, or one more than a record's number; what was saved is opened again.
func TestOpenNext(t *testing.T) {
	state := record(9, put("x", 1))
	for i, c := range []struct {
		k    *tape.Tape
		next int
	}{
		{disk(t, 100), 1},
		{saved(t, nil), 1},
		{saved(t, state), 9},
		{saved(t, record(1)), 1},
		{saved(t, record(lastTxn+1)), lastTxn + 1},
		{saved(t, state, record(5, put("y", 1))), 9},
		{saved(t, state, record(8, put("y", 1))), 9},
		{saved(t, state, record(9, put("y", 1))), 10},
		{saved(t, nil, record(70, put("y", 1)), record(7, put("y", 1))), 71},
		{saved(t, nil, record(lastTxn, del("x"))), lastTxn + 1},
	} {
		d := open(t, c.k)
		rows := d.Rows()
		numbers(t, d, c.next, len(rows), nil, nil)
		is(t, fmt.Sprint("Save ", i), d.Save(), api.OK)
		b := open(t, c.k)
		numbers(t, b, c.next, len(rows), nil, nil)
		holds(t, b, rows...)
	}
}

// P14.1: records count by rising numbers, those of one number in the log's order.
func TestOpenOrder(t *testing.T) {
	state := record(3, put("a", 1), put("b", 2), put("c", 3))
	k := saved(t, state,
		record(5, put("b", 55), put("x", 5)),
		record(4, del("a"), put("b", 44), put("y", 4)),
		record(6, del("x"), put("z", 60)),
		record(6, put("z", 61)),
		record(3, put("a", 33), put("x", 3)),
		record(6, put("zz", 62)))
	d := open(t, k)
	numbers(t, d, 7, 5, nil, nil)
	holds(t, d, row("b", 55), row("c", 3), row("y", 4), row("z", 61), row("zz", 62))
}

// P14.1: the journal's errors.
func TestOpenRefused(t *testing.T) {
	torn := disk(t, 100)
	is(t, "Append", torn.Append(0, []byte("torn")), api.OK)
	torn.Fuse(0)
	for what, c := range map[string]struct {
		k    *tape.Tape
		seg  int
		want api.Errno
	}{
		"no tape":          {nil, 200, api.ErrNil},
		"no tape, too few": {nil, 15, api.ErrNil},
		"too few":          {disk(t, 100), 15, api.ErrArg},
		"below 0":          {disk(t, 100), math.MinInt, api.ErrArg},
		"too many":         {disk(t, 100), api.MaxDisk + 1, api.ErrArg},
		"no power":         {torn, 200, api.ErrDown},
	} {
		if d, e := dbb.Open(c.k, c.seg); d != nil || e != c.want {
			t.Error(what, e)
		}
	}
	for _, seg := range []int{16, api.MaxDisk} {
		if d, e := dbb.Open(disk(t, 0), seg); d == nil || e != api.OK {
			t.Error(seg, e)
		}
	}
}

// P14.1: a state or a record that is none, or too many rows.
func TestOpenForm(t *testing.T) {
	good := record(3, put("x", 1))
	two := record(1, put("x", 1), put("y", 2))
	full := record(5, puts(api.MaxRows)...)
	for what, k := range map[string]*tape.Tape{
		"no number":              saved(t, []byte{9}),
		"a nought ahead":         saved(t, octet.Seq([]byte{2, 0, 5}, cells.Encode())),
		"no rows":                saved(t, octet.Nat(3)),
		"cut":                    saved(t, good[:len(good)-1]),
		"longer":                 saved(t, append(slices.Clone(good), 0)),
		"next is 0":              saved(t, record(0, put("x", 1))),
		"next is too great":      saved(t, record(lastTxn+2)),
		"next is far beyond":     saved(t, record(math.MaxUint64)),
		"beyond 32 bits":         saved(t, record(1<<32+3)),
		"a key twice":            saved(t, record(3, put("x", 1), put("x", 1))),
		"rows that fall":         saved(t, record(3, put("y", 1), put("x", 1))),
		"a row of nothing":       saved(t, record(3, del("x"))),
		"a long key":             saved(t, record(3, put("abcdefghijklmnopq", 1))),
		"one row too many":       saved(t, record(3, puts(api.MaxRows+1)...)),
		"no record":              saved(t, good, two, []byte("what?")),
		"an empty record":        saved(t, good, nil, two),
		"a record that is cut":   saved(t, good, two[:len(two)-1]),
		"a longer record":        saved(t, good, append(slices.Clone(two), 0)),
		"number 0":               saved(t, nil, record(0, put("x", 1))),
		"a number too great":     saved(t, nil, record(lastTxn+1, put("x", 1))),
		"a number far beyond":    saved(t, nil, record(math.MaxUint64, put("x", 1))),
		"a number of 33 bits":    saved(t, nil, record(1<<32+3, put("x", 1))),
		"a record's key twice":   saved(t, nil, record(1, put("x", 1), del("x"))),
		"changes that fall":      saved(t, nil, record(1, put("y", 1), put("x", 1))),
		"a record's long key":    saved(t, nil, record(1, del("abcdefghijklmnopq"))),
		"rows by a record":       saved(t, nil, record(1, puts(api.MaxRows+1)...)),
		"rows by one more":       saved(t, full, record(5, put("x", 1))),
		"rows by one in between": saved(t, nil, record(3, del("k000")), record(1, puts(api.MaxRows)...), record(2, put("x", 1))),
	} {
		if d, e := dbb.Open(k, 200); d != nil || e != api.ErrForm {
			t.Error(what, e)
		}
	}
	for what, k := range map[string]*tape.Tape{
		"full":           saved(t, full),
		"full by one":    saved(t, nil, record(1, puts(api.MaxRows)...)),
		"full by two":    saved(t, record(9, puts(api.MaxRows)[1:]...), record(9, put("k000", 1))),
		"changed, full":  saved(t, full, record(6, put("k000", 1)), record(5, put("k000", 9))),
		"by one, by one": saved(t, full, record(6, put("k000", 1)), record(5, del("k000"))),
	} {
		if d := open(t, k); len(d.Rows()) != api.MaxRows || d.Versions() != api.MaxRows {
			t.Error(what, len(d.Rows()), d.Versions())
		}
	}
}

// P14.6: nothing that is told is shared.
func TestShared(t *testing.T) {
	d, _ := fresh(t)
	begin(t, d)
	begin(t, d)
	tells(t, d, 2, "put x 1", 1)
	is(t, "Commit", d.Commit(2), api.OK)
	is(t, "Commit", d.Commit(1), api.OK)
	begin(t, d)
	tells(t, d, 3, "put y 1", 1)
	clear(d.Rows())
	clear(d.Opened())
	clear(d.Serial())
	_ = append(d.Serial()[:1], 99)
	numbers(t, d, 4, 3, []int{3}, []int{1, 2})
	is(t, "Commit", d.Commit(3), api.OK)
	numbers(t, d, 4, 2, nil, []int{1, 2, 3})
	holds(t, d, row("x", 1), row("y", 1))
}
