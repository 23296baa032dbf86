package book_test

import (
	"fmt"
	"slices"
	"strings"
	"testing"

	"byroad/api"
	"byroad/book"
	"byroad/flex"
	"byroad/journal"
	"byroad/octet"
)

// holds fails the test, if a tape's log does not have just that state and these records.
func holds(t *testing.T, what string, j *journal.Journal, state []byte, recs ...[]byte) {
	t.Helper()
	if string(j.State()) != string(state) || fmt.Sprint(j.Recs()) != fmt.Sprint(recs) {
		t.Errorf("%s: the state %v, the records %v\nnot %v, %v", what, j.State(), j.Recs(), state, recs)
	}
}

// The bytes of records and of a checkpoint's state.
func TestBytes(t *testing.T) {
	b, k := fresh(t)
	p, q := spec(t, "a b", "a c", "e"), spec(t, "d", "c")
	accept(t, b, p)
	accept(t, b, q)
	for _, e := range []api.Errno{b.Kept(1, 1), b.Failed(1, 2), b.Cancel(2), b.Failed(1, 3), b.Undone(1, 1), b.Failed(2, 1), b.End(2)} {
		is(t, "a decision", e, api.OK)
	}
	accept(t, b, q)
	b.Kept(3, 1)
	j, e := journal.Open(k.Crash(), 500)
	is(t, "the journal's Open", e, api.OK)
	holds(t, "records", j, nil, accepted(1, p), accepted(2, q), nats(3, 1, 1), nats(4, 1, 2), nats(2, 2), nats(4, 1, 3), nats(5, 1, 1), nats(4, 2, 1), nats(6, 2), accepted(3, q), nats(3, 3, 1))
	is(t, "End", b.End(3), api.OK)
	accept(t, b, q)
	is(t, "Cancel", b.Cancel(4), api.OK)
	is(t, "Save", b.Save(), api.OK)
	is(t, "Kept", b.Kept(4, 1), api.OK)
	j, e = journal.Open(k.Crash(), 500)
	is(t, "the journal's Open", e, api.OK)
	one := octet.Seq(nats(1), text(p), nats(0, 3, 1, 2, 3), octet.Yes(false))
	two := octet.Seq(nats(4), text(q), nats(0, 1, 2), octet.Yes(true))
	holds(t, "a state", j, octet.Seq(nats(5, 2), one, two, nats(2, 2, book.Aborted, 0, 3, book.Committed, 1)), nats(3, 4, 1))
	b, k = fresh(t)
	is(t, "Save", b.Save(), api.OK)
	j, e = journal.Open(k.Crash(), 500)
	is(t, "the journal's Open", e, api.OK)
	holds(t, "a state of nothing", j, nats(1, 0, 0))
}

// P28.1: a record that is none, or may not follow. All of them stand behind two that are right: 1 has the usual nodes and is at 1, 2 is over.
func TestWrongRecords(t *testing.T) {
	p := usual(t)
	right := [][]byte{accepted(1, p), nats(3, 1, 1), accepted(2, p), nats(4, 2, 1), nats(6, 2)}
	if b, e := book.Open(log(t, nil, right...), 500); e != api.OK || b.Next() != 3 || b.Low() != 1 {
		t.Fatal("Open", e)
	}
	wrongType := usual(t)
	wrongType.Subs[2].Do[0].Kind = api.Add
	bytes := flex.Encode(p)
	unknown := slices.Clone(bytes)
	unknown[len(unknown)-1] = 5 // no such place
	for i, x := range [][]byte{
		nil, nats(0), nats(1), nats(2), nats(3), nats(6), // neither a number nor what follows
		nats(0, 1), nats(7, 1), nats(1<<32+2, 1), nats(1<<63, 1), nats(7, 1, 1), {2, 2}, {9}, // kinds
		nats(2, 0), nats(2, 2), nats(2, 3), nats(2, 1<<32+1), nats(2, 1<<63), nats(2, 1, 0), nats(2, 1), // who can't be cancelled, or what is too much (1 is past it)
		nats(3, 1), nats(3, 1, 0), nats(3, 1, 1), nats(3, 1, 4), nats(3, 1, 1<<32+2), nats(3, 1, 1<<63+2), nats(3, 1, 2, 0), nats(3, 2, 1), nats(3, 3, 1), nats(3, 0, 1), // kept
		nats(4, 1), nats(4, 1, 0), nats(4, 1, 1), nats(4, 1, 4), nats(4, 1, 1<<32+2), nats(4, 1, 1<<63+2), nats(4, 1, 2, 0), nats(4, 2, 2), nats(4, 3, 1), // failed
		nats(5, 1), nats(5, 1, 0), nats(5, 1, 2), nats(5, 1, 3), nats(5, 1, 1<<32+1), nats(5, 1, 1<<63+1), nats(5, 1, 1, 0), nats(5, 2, 1), nats(5, 3, 1), // undone
		nats(6, 1), nats(6, 2), nats(6, 3), nats(6, 0), nats(6, 1, 0), // ended
		{1, 3, 2, 0, 1, 1, 2}, {1, 3, 1, 1}, // numbers that are not in their one form, or are cut
		accepted(0, p), accepted(1, p), accepted(2, p), accepted(4, p), accepted(1<<32+3, p), accepted(1<<63+3, p), // who is not next
		accepted(3, flex.Spec{}), accepted(3, wrongType), octet.Seq(nats(1, 3), octet.Str(string(unknown))), accepted(3, spec(t, "b a")), accepted(3, spec(t, "a", "a b")), // not well-formed
		octet.Seq(nats(1, 3), bytes), octet.Seq(accepted(3, p), nats(0)), octet.Seq(nats(1, 3), octet.Str(string(bytes)+"\x00")),
		octet.Seq(nats(1, 3), octet.Str(string(bytes[:len(bytes)-1]))), accepted(3, p)[:len(bytes)],
	} {
		if b, e := book.Open(log(t, nil, append(slices.Clone(right), x)...), 500); b != nil || e != api.ErrForm {
			t.Errorf("%d: Open with the record %v: %v", i, x, e)
		}
		if b, e := book.Open(log(t, nil, append([][]byte{x}, right...)...), 500); b != nil || e != api.ErrForm {
			t.Errorf("%d: Open with the record %v ahead: %v", i, x, e)
		}
	}
	for i, x := range [][]byte{nats(3, 1, 2), nats(4, 1, 2), nats(5, 1, 1), accepted(3, p)} {
		if _, e := book.Open(log(t, nil, append(slices.Clone(right), x)...), 500); e != api.OK {
			t.Errorf("%d: Open with the record %v: %v", i, x, e)
		}
	}
}

// P28.1: no more than 16 are active by records.
func TestManyRecords(t *testing.T) {
	var l [][]byte
	for g := range uint64(mostActive) {
		l = append(l, accepted(g+1, usual(t)))
	}
	if b, e := book.Open(log(t, nil, l...), 500); e != api.OK || len(b.Active()) != mostActive {
		t.Error("Open", e)
	}
	l = append(l, accepted(17, usual(t)))
	if b, e := book.Open(log(t, nil, l...), 500); b != nil || e != api.ErrForm {
		t.Error("Open with too many", e)
	}
	l[mostActive] = nats(2, 1)
	if b, e := book.Open(log(t, nil, append(l, nats(4, 1, 1), nats(6, 1), accepted(17, usual(t)))...), 500); e != api.OK || b.Low() != 2 || b.Next() != 18 {
		t.Error("Open", e)
	}
}

// active is the bytes of an active transaction in a state.
func active(g uint64, p flex.Spec, at uint64, cancel bool, failed ...uint64) []byte {
	return octet.Seq(nats(g), text(p), nats(at, uint64(len(failed))), nats(failed...), octet.Yes(cancel))
}

// over is the bytes of so many that are over, each the number 1, and aborted.
func over(many int) []byte {
	return octet.Seq(nats(uint64(many)), slices.Repeat(nats(1, 2, 0), many))
}

// actives is the bytes of so many that are active, from 1 on.
func actives(t *testing.T, many int) []byte {
	t.Helper()
	b := nats(uint64(many))
	for g := range uint64(many) {
		b = append(b, active(g+1, usual(t), 0, false)...)
	}
	return b
}

// P28.1: states.
func TestStates(t *testing.T) {
	p := usual(t)
	for i, x := range []struct {
		state []byte
		want  string
	}{
		{[]byte{}, "1 1 [] []"},
		{nats(1, 0, 0), "1 1 [] []"},
		{nats(lastG+1, 0, 0), "1048577 1048577 [] []"},
		{octet.Seq(nats(lastG+1), actives(t, mostActive), nats(0)), "1048577 1 [1 2 3 4 5 6 7 8 9 10 11 12 13 14 15 16] []"},
		{octet.Seq(nats(9, 2), active(3, p, 1, true, 2), active(8, p, 0, false, 1), nats(3), nats(7, 1, 255), nats(1, 2, 0), nats(4, 1, 3)), "9 3 [3 8] [7 1 4]"},
	} {
		b, e := book.Open(log(t, x.state), 500)
		if e != api.OK {
			t.Fatal(i, "Open", e)
		}
		if got := fmt.Sprint(b.Next(), b.Low(), b.Active(), b.Over()); strings.ReplaceAll(got, "  ", " ") != x.want {
			t.Error(i, got)
		}
	}
	b := open(t, log(t, octet.Seq(nats(9, 2), active(3, p, 1, true, 2), active(8, p, 0, false, 1), nats(3), nats(7, 1, 255), nats(1, 2, 0), nats(4, 1, 3))))
	got := ""
	for _, g := range []int{1, 3, 4, 7, 8} {
		x, ok := b.Txn(g)
		got += fmt.Sprintln(x.G, x.At, x.Failed, x.Cancel, x.Outcome, ok)
	}
	if want := "1 0 [] false 2 true\n3 1 [2] true 0 true\n4 3 [] false 1 true\n7 255 [] false 1 true\n8 0 [1] false 0 true\n"; got != want {
		t.Error(got)
	}
	if b := open(t, log(t, octet.Seq(nats(2, 0), over(mostOver)))); len(b.Over()) != mostOver {
		t.Error("over", b.Over())
	}
}

// P28.1: ErrForm, if a state is none.
func TestWrongStates(t *testing.T) {
	p, wrong := usual(t), usual(t)
	wrong.Subs[2].Do[0].Kind = api.Add
	right := active(3, p, 0, false)
	whole := octet.Seq(nats(9, 1), right, nats(1, 4, 2, 0))
	open(t, log(t, whole))
	with := func(parts ...[]byte) []byte { return octet.Seq(octet.Seq(parts...), nats(0)) }
	wrongs := [][]byte{
		nats(0, 0, 0), nats(lastG+2, 0, 0), nats(1<<32+1, 0, 0), nats(1<<63+1, 0, 0), nats(1<<64-1, 0, 0), {9}, {1, 0, 0, 0}, // next
		with(nats(9, 2), right, right), with(nats(9, 2), active(4, p, 0, false), right), with(nats(3, 1), right), with(nats(2, 1), right), // active: rising, below next
		with(nats(9, 1), active(0, p, 0, false)), with(nats(9, 1), active(1<<32+3, p, 0, false)), with(nats(9, 1), active(1<<63+3, p, 0, false)),
		with(nats(lastG+1), actives(t, mostActive+1)), nats(9, 17), nats(9, 1<<32), nats(9, 1<<63), nats(9, 1<<64-1), // too many
		with(nats(9, 1), active(3, flex.Spec{}, 0, false)), with(nats(9, 1), active(3, wrong, 0, false)), with(nats(9, 1), active(3, spec(t, "b a"), 0, false)), // not well-formed
		with(nats(9, 1), active(3, p, 4, false)), with(nats(9, 1), active(3, p, 1<<32+1, false)), with(nats(9, 1), active(3, p, 1<<63, false)), // At
		with(nats(9, 1), active(3, p, 0, false, 0)), with(nats(9, 1), active(3, p, 0, false, 4)), with(nats(9, 1), active(3, p, 0, false, 1<<32+1)), with(nats(9, 1), active(3, p, 0, true, 1<<63+1)), // Failed
		with(nats(9, 1), active(3, p, 1, false, 1)), with(nats(9, 1), active(3, p, 2, false, 1)), with(nats(9, 1), active(3, p, 0, false, 2, 1)), with(nats(9, 1), active(3, p, 0, false, 2, 2)),
		with(nats(9, 1), active(3, p, 0, false, 1, 2, 3, 4)), with(nats(9, 1), active(3, p, 0, false, 1, 2, 3, 4, 5, 6, 7)),
		octet.Seq(nats(9, 1, 3), text(p), nats(0, 1<<32)), octet.Seq(nats(9, 1, 3), text(p), nats(0, 1<<64-1)),
		octet.Seq(nats(9, 1, 3), text(p), nats(0, 0), []byte{2, 0}), octet.Seq(nats(9, 1, 3), flex.Encode(p), nats(0, 0, 0, 0)), // Cancel; no text
		nats(9, 0, 1, 0, 1, 0), nats(9, 0, 1, 9, 1, 0), nats(9, 0, 1, 1<<32+1, 1, 0), nats(9, 0, 1, 1<<63+1, 1, 0), nats(1, 0, 1, 1, 1, 0), // over: from 1 to below next
		nats(9, 0, 1, 1, 0, 0), nats(9, 0, 1, 1, 3, 0), nats(9, 0, 1, 1, 1<<32+1, 0), nats(9, 0, 1, 1, 1<<63+1, 0), // outcomes
		nats(9, 0, 1, 1, 1, 256), nats(9, 0, 1, 1, 1, 1<<32), nats(9, 0, 1, 1, 1, 1<<63), // At
		octet.Seq(nats(9, 0), over(mostOver+1)), nats(9, 0, 1<<32), nats(9, 0, 1<<64-1), // too many
		append(slices.Clone(whole), 0), append(slices.Clone(whole), whole...), append([]byte{0}, whole...),
	}
	for n := 1; n < len(whole); n++ {
		wrongs = append(wrongs, whole[:n])
	}
	for i, x := range wrongs {
		if b, e := book.Open(log(t, x), 500); b != nil || e != api.ErrForm {
			t.Errorf("%d: Open with the state %v: %v", i, x, e)
		}
		if b, e := book.Open(log(t, x, nats(7, 7)), 500); b != nil || e != api.ErrForm {
			t.Errorf("%d: Open with the state %v and a record: %v", i, x, e)
		}
	}
}

// great is a flexible transaction of many bytes.
func great(t *testing.T) flex.Spec {
	t.Helper()
	var p flex.Spec
	for i := range api.MaxSubs {
		s := flex.Sub{Name: fmt.Sprintf("name%04d", i), Type: flex.Both}
		for range api.MaxOps {
			s.Do = append(s.Do, api.Op{Kind: api.Put, Key: strings.Repeat("k", api.MaxKey), N: -1 << 63})
		}
		s.Undo = s.Do
		p.Subs = append(p.Subs, s)
		if i < api.MaxPath {
			p.Paths = append(p.Paths, []int{i})
		}
	}
	if !flex.May(p) {
		t.Fatal("it may not be")
	}
	return p
}

// P28.3: the journal's Save: its errors change nothing, and leave nothing behind.
func TestSave(t *testing.T) {
	b, k := fresh(t)
	for range 6 {
		accept(t, b, great(t))
	}
	stays(t, b, k, func() { is(t, "Save", b.Save(), api.ErrLong) })
	for g := range 4 {
		b.Cancel(g + 1)
		b.Failed(g+1, 1)
		is(t, "End", b.End(g+1), api.OK)
	}
	used := k.Used()
	stays(t, b, k, func() {
		is(t, "Room", k.Room(used), api.OK)
		is(t, "Save", b.Save(), api.ErrFull)
		is(t, "Failed", b.Failed(6, 1), api.ErrFull)
		is(t, "End", b.End(6), api.ErrState)
		is(t, "Cancel", b.Cancel(6), api.ErrFull)
		refused(t, b, usual(t), 0, api.ErrFull)
		is(t, "Room", k.Room(api.MaxDisk), api.OK)
		is(t, "Save", b.Save(), api.OK)
		is(t, "Save", b.Save(), api.OK)
	})
	if k.Used() >= used {
		t.Error("nothing was left out", k.Used(), used)
	}
	k.Fuse(0)
	stays(t, b, k, func() {
		is(t, "Save", b.Save(), api.ErrDown)
		is(t, "Failed", b.Failed(6, 1), api.ErrDown)
		is(t, "Kept", b.Kept(6, 1), api.ErrDown)
		is(t, "Kept", b.Kept(6, 77), api.ErrState)
		is(t, "Cancel", b.Cancel(6), api.ErrDown)
		is(t, "Cancel", b.Cancel(1), api.ErrNone)
		refused(t, b, usual(t), 0, api.ErrDown)
		refused(t, b, spec(t, "b a"), 1, api.ErrStuck)
	})
}
