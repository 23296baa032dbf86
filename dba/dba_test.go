package dba_test

import (
	"fmt"
	"math"
	"slices"
	"testing"

	"byroad/api"
	"byroad/cells"
	"byroad/dba"
	"byroad/journal"
	"byroad/octet"
	"byroad/ops"
	"byroad/page"
	"byroad/tape"
	"byroad/undo"
)

const lastTxn = 1 << 30

// disk is a tape of that room.
func disk(t *testing.T, room int) *tape.Tape {
	t.Helper()
	k, e := tape.New(room)
	if e != api.OK {
		t.Fatal("New", room, e)
	}
	return k
}

// open is the site on a tape.
func open(t *testing.T, k *tape.Tape) *dba.Db {
	t.Helper()
	d, e := dba.Open(k, 4000)
	if e != api.OK || d == nil {
		t.Fatal("Open", e)
	}
	return d
}

// fresh is a site on an empty tape, and that.
func fresh(t *testing.T) (*dba.Db, *tape.Tape) {
	t.Helper()
	k := disk(t, 40000)
	return open(t, k), k
}

// begin opens a transaction.
func begin(t *testing.T, d *dba.Db) int {
	t.Helper()
	id, e := d.Begin()
	if e != api.OK {
		t.Fatal("Begin", e)
	}
	return id
}

// op is one operation's text, as an operation.
func op(t *testing.T, s string) api.Op {
	t.Helper()
	l, at, e := ops.Parse(s)
	if e != api.OK || len(l) != 1 {
		t.Fatal(s, at, e)
	}
	return l[0]
}

// tells fails the test, if an operation does not tell just that.
func tells(t *testing.T, d *dba.Db, id int, s string, want int64) {
	t.Helper()
	if n, e := d.Do(id, op(t, s)); n != want || e != api.OK {
		t.Fatal(id, s, "tells", n, e)
	}
}

// fails fails the test, if an operation does not answer just that error.
func fails(t *testing.T, d *dba.Db, id int, s string, want api.Errno) {
	t.Helper()
	if n, e := d.Do(id, op(t, s)); n != 0 || e != want {
		t.Fatal(id, s, "tells", n, e, "not", want)
	}
}

// is fails the test, if a call does not answer just that.
func is(t *testing.T, what string, got, want api.Errno) {
	t.Helper()
	if got != want {
		t.Fatal(what, "answers", got, "not", want)
	}
}

// row is a row.
func row(key string, n int64) api.Row { return api.Row{Key: key, N: n} }

// holds fails the test, if a site does not tell just these rows.
func holds(t *testing.T, d *dba.Db, want ...api.Row) {
	t.Helper()
	if got := d.Rows(); !slices.Equal(got, want) {
		t.Fatal("rows", got, "not", want)
	}
}

// numbers fails the test, if what a site tells of its transactions is not just that.
func numbers(t *testing.T, d *dba.Db, next, owed int, opened []int, serial []int) {
	t.Helper()
	if d.Next() != next || d.Owed() != owed || !slices.Equal(d.Opened(), opened) || !slices.Equal(d.Serial(), serial) {
		t.Fatal("next", d.Next(), "owed", d.Owed(), "opened", d.Opened(), "serial", d.Serial())
	}
}

// whole is what a tape would be if all that is on it lasted.
func whole(k *tape.Tape) *tape.Tape {
	return k.Crash(slices.Repeat([]int{api.MaxDisk}, api.MaxSegs)...)
}

// log is the records on a tape.
func log(t *testing.T, k *tape.Tape) []undo.Rec {
	t.Helper()
	j, e := journal.Open(whole(k), 16)
	is(t, "the journal's Open", e, api.OK)
	var l []undo.Rec
	for _, b := range j.Recs() {
		r, e := undo.Decode(b)
		is(t, "Decode", e, api.OK)
		l = append(l, r)
	}
	return l
}

// logs fails the test, if the records on a tape are not just these.
func logs(t *testing.T, k *tape.Tape, want ...undo.Rec) {
	t.Helper()
	if got := log(t, k); !slices.Equal(got, want) {
		t.Fatal("the log has", got, "not", want)
	}
}

// plain is a record without a key.
func plain(kind, txn int) undo.Rec { return undo.Rec{Kind: kind, Txn: txn} }

// rec is a change or a back of a key; nil is nothing.
func rec(kind, txn int, key string, was, now any) undo.Rec {
	r := undo.Rec{Kind: kind, Txn: txn, Change: cells.Change{Key: key}}
	if was != nil {
		r.Was, r.Had = int64(was.(int)), true
	}
	if now != nil {
		r.N, r.There = int64(now.(int)), true
	}
	return r
}

func change(txn int, key string, was, now any) undo.Rec { return rec(undo.Change, txn, key, was, now) }
func back(txn int, key string, was, now any) undo.Rec   { return rec(undo.Back, txn, key, was, now) }

// P12
func TestNil(t *testing.T) {
	for what, d := range map[string]*dba.Db{"nil": nil, "one that Open did not make": {}} {
		id, e := d.Begin()
		n, f := d.Do(1, api.Op{Kind: api.Get, Key: "x"})
		if id != 0 || n != 0 {
			t.Error(what, id, n)
		}
		for call, e := range map[string]api.Errno{"Begin": e, "Do": f, "Commit": d.Commit(1), "Abort": d.Abort(1), "Save": d.Save()} {
			if e != api.ErrNil {
				t.Error(what, call, e)
			}
		}
		if len(d.Rows())+len(d.Opened())+len(d.Serial())+len(d.Edges())+d.Next()+d.Owed() != 0 {
			t.Error(what, d.Rows(), d.Opened(), d.Serial(), d.Edges(), d.Next(), d.Owed())
		}
	}
}

// The chapter's example.
func TestExample(t *testing.T) {
	d, _ := fresh(t)
	one, two := begin(t, d), begin(t, d)
	tells(t, d, one, "put x 1", 1)
	tells(t, d, two, "put y 2", 2)
	fails(t, d, one, "get y", api.ErrBusy)
	fails(t, d, two, "get x", api.ErrVictim)
	tells(t, d, one, "get y", 0)
	is(t, "Commit", d.Commit(one), api.OK)
	holds(t, d, row("x", 1))
}

// P12.2
func TestBegin(t *testing.T) {
	d, k := fresh(t)
	numbers(t, d, 1, 0, nil, nil)
	var all []int
	for i := range api.MaxOpen {
		if id := begin(t, d); id != i+1 {
			t.Fatal(i, id)
		}
		all = append(all, i+1)
	}
	if id, e := d.Begin(); id != 0 || e != api.ErrFull {
		t.Error("one more", id, e)
	}
	numbers(t, d, 33, 0, all, nil)
	is(t, "Abort", d.Abort(7), api.OK)
	if id := begin(t, d); id != 33 {
		t.Error("behind an end", id)
	}
	if log(t, k) != nil {
		t.Error("it is written down", log(t, k))
	}
}

// saved is a tape with a checkpoint of that state, and records behind it.
func saved(t *testing.T, state []byte, recs ...[]byte) *tape.Tape {
	t.Helper()
	k := disk(t, 40000)
	j, e := journal.Open(k, 16000)
	is(t, "the journal's Open", e, api.OK)
	is(t, "the journal's Save", j.Save(state), api.OK)
	is(t, "the journal's Write", j.Write(recs...), api.OK)
	return k
}

// store is the bytes of a site's rows.
func store(t *testing.T, rows ...api.Row) []byte {
	t.Helper()
	s, e := page.New(8)
	is(t, "the page's New", e, api.OK)
	for _, r := range rows {
		is(t, "Put", s.Put(r.Key, r.N), api.OK)
	}
	return s.Bytes()
}

// P12.2: the last number there is.
func TestBeginLast(t *testing.T) {
	d := open(t, saved(t, octet.Seq(octet.Nat(lastTxn), store(t))))
	id := begin(t, d)
	if id != lastTxn {
		t.Error(id)
	}
	tells(t, d, id, "put x 1", 1)
	is(t, "Commit", d.Commit(id), api.OK)
	if id, e := d.Begin(); id != 0 || e != api.ErrFull {
		t.Error("beyond it", id, e)
	}
	numbers(t, d, lastTxn+1, 0, nil, []int{lastTxn})
}

// P12.1: next is what the state says, or one more than a record's number; what was saved is opened again.
func TestOpenNext(t *testing.T) {
	state := octet.Seq(octet.Nat(9), store(t, row("x", 1)))
	for _, c := range []struct {
		k    *tape.Tape
		next int
	}{
		{saved(t, nil), 1},
		{saved(t, state), 9},
		{saved(t, octet.Seq(octet.Nat(lastTxn+1), store(t))), lastTxn + 1},
		{saved(t, state, undo.Encode(plain(undo.Abort, 5))), 9},
		{saved(t, state, undo.Encode(plain(undo.Abort, 8))), 9},
		{saved(t, state, undo.Encode(plain(undo.Abort, 9))), 10},
		{saved(t, nil, undo.Encode(plain(undo.Commit, 70)), undo.Encode(plain(undo.Abort, 7))), 71},
		{saved(t, nil, undo.Encode(plain(undo.Begin, lastTxn))), lastTxn + 1},
	} {
		d := open(t, c.k)
		numbers(t, d, c.next, 0, nil, nil)
		is(t, "Save", d.Save(), api.OK)
		numbers(t, open(t, c.k), c.next, 0, nil, nil)
	}
}

// P12.1: the journal's errors.
func TestOpenRefused(t *testing.T) {
	torn := disk(t, 100)
	is(t, "Append", torn.Append(0, []byte("torn")), api.OK)
	torn.Fuse(0)
	for what, c := range map[string]struct {
		k    *tape.Tape
		seg  int
		want api.Errno
	}{
		"no tape":          {nil, 200, api.ErrNil},
		"no tape, too few": {nil, 15, api.ErrNil},
		"too few":          {disk(t, 100), 15, api.ErrArg},
		"below 0":          {disk(t, 100), math.MinInt, api.ErrArg},
		"too many":         {disk(t, 100), api.MaxDisk + 1, api.ErrArg},
		"no power":         {torn, 200, api.ErrDown},
	} {
		if d, e := dba.Open(c.k, c.seg); d != nil || e != c.want {
			t.Error(what, e)
		}
	}
	for _, seg := range []int{16, api.MaxDisk} {
		if d, e := dba.Open(disk(t, 0), seg); d == nil || e != api.OK {
			t.Error(seg, e)
		}
	}
}

// P12.1: a state or a record that is none.
func TestOpenForm(t *testing.T) {
	good := octet.Seq(octet.Nat(3), store(t, row("x", 1)))
	tooFull := octet.Seq([]byte("\x01\x01\x01\x09"))
	for i := range 9 {
		tooFull = octet.Seq(tooFull, octet.Str(fmt.Sprint("k", i)), octet.Num(1))
	}
	commit := undo.Encode(plain(undo.Commit, 1))
	for what, k := range map[string]*tape.Tape{
		"no number":          saved(t, []byte{9}),
		"a nought ahead":     saved(t, octet.Seq([]byte("\x02\x00\x05"), store(t))),
		"no rows":            saved(t, octet.Nat(3)),
		"cut":                saved(t, good[:len(good)-1]),
		"longer":             saved(t, append(slices.Clone(good), 0)),
		"a page too full":    saved(t, octet.Seq(octet.Nat(3), tooFull[1:])),
		"next is 0":          saved(t, octet.Seq(octet.Nat(0), store(t))),
		"next is too great":  saved(t, octet.Seq(octet.Nat(lastTxn+2), store(t))),
		"next is far beyond": saved(t, octet.Seq(octet.Nat(math.MaxUint64), store(t))),
		"no record":          saved(t, good, commit, []byte("what?")),
		"an empty record":    saved(t, good, nil, commit),
		"one that may not":   saved(t, nil, undo.Encode(plain(undo.Commit, lastTxn+1))),
		"ahead of too many":  saved(t, nil, append(many(api.MaxRows+1), []byte("what?"))...),
	} {
		if d, e := dba.Open(k, 200); d != nil || e != api.ErrForm {
			t.Error(what, e)
		}
	}
}

// many is records of a transaction that puts so many rows and is committed.
func many(n int) [][]byte {
	l := [][]byte{undo.Encode(plain(undo.Begin, 1))}
	for i := range n {
		l = append(l, undo.Encode(change(1, fmt.Sprintf("k%03d", i), nil, 1)))
	}
	return append(l, undo.Encode(plain(undo.Commit, 1)))
}

// P12.1: records of more rows than there may be come to what Replay answers.
func TestOpenFull(t *testing.T) {
	if d, e := dba.Open(saved(t, nil, many(api.MaxRows+1)...), 200); d != nil || e != api.ErrFull {
		t.Error(e)
	}
	if d := open(t, saved(t, nil, many(api.MaxRows)...)); len(d.Rows()) != api.MaxRows {
		t.Error(len(d.Rows()))
	}
}

// P12.1: a full site, of which records take one row and put another one ahead of it.
func TestOpenFullChanged(t *testing.T) {
	k := disk(t, 40000)
	j, e := journal.Open(k, 16000)
	is(t, "the journal's Open", e, api.OK)
	is(t, "Write", j.Write(many(api.MaxRows)...), api.OK)
	d := open(t, k)
	is(t, "Save", d.Save(), api.OK)
	id := begin(t, d)
	tells(t, d, id, "del k255", 1)
	is(t, "Commit", d.Commit(id), api.OK)
	id = begin(t, d)
	tells(t, d, id, "put a 7", 7)
	is(t, "Commit", d.Commit(id), api.OK)
	want := d.Rows()
	if len(want) != api.MaxRows || want[0] != row("a", 7) {
		t.Fatal(len(want), want[0])
	}
	holds(t, open(t, whole(k)), want...)
}

// P12.1: what Replay tells is written, or owed, and then written with what is next.
func TestOpenOwes(t *testing.T) {
	l := []undo.Rec{plain(undo.Begin, 4), change(4, "x", nil, 5), change(4, "x", 5, 6), plain(undo.Begin, 5), change(5, "y", nil, 1), plain(undo.Commit, 5)}
	more := []undo.Rec{back(4, "x", 6, 5), back(4, "x", 5, nil), plain(undo.Abort, 4)}
	var recs [][]byte
	for _, r := range l {
		recs = append(recs, undo.Encode(r))
	}
	k := saved(t, nil, recs...)
	once := whole(k)
	d := open(t, once)
	numbers(t, d, 6, 0, nil, nil)
	holds(t, d, row("y", 1))
	logs(t, once, slices.Concat(l, more)...)
	if once.Synced(0)+once.Synced(1) == once.Used() {
		t.Error("it is synced")
	}
	before := once.Used()
	holds(t, open(t, once), row("y", 1))
	if once.Used() != before {
		t.Error("opened again, it writes more")
	}

	full := whole(k)
	is(t, "Room", full.Room(full.Used()), api.OK)
	d = open(t, full)
	numbers(t, d, 6, 3, nil, nil)
	holds(t, d, row("y", 1))
	logs(t, full, l...)
	id := begin(t, d)
	fails(t, d, id, "put x 1", api.ErrFull)
	numbers(t, d, 7, 3, []int{6}, nil)
	is(t, "Room", full.Room(40000), api.OK)
	tells(t, d, id, "put x 1", 1)
	numbers(t, d, 7, 0, []int{6}, nil)
	logs(t, full, slices.Concat(l, more, []undo.Rec{plain(undo.Begin, 6), change(6, "x", nil, 1)})...)

	down := whole(k)
	down.Fuse(0)
	d = open(t, down)
	numbers(t, d, 6, 3, nil, nil)
	if !down.Down() {
		t.Error("nothing was tried")
	}
	holds(t, d, row("y", 1))
}
