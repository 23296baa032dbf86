package book_test

import (
	"fmt"
	"math"
	"slices"
	"testing"

	"byroad/api"
	"byroad/book"
	"byroad/flex"
	"byroad/plan"
)

// nowhere are numbers that are never a node's.
var nowhere = []int{-1, 99, 1 << 32, math.MinInt, math.MaxInt}

// The chapter's example.
func TestExample(t *testing.T) {
	b, _ := fresh(t)
	if accept(t, b, usual(t)) != 1 {
		t.Error("Accept")
	}
	is(t, "Kept", b.Kept(1, 1), api.OK)
	is(t, "Failed", b.Failed(1, 2), api.OK)
	is(t, "Kept", b.Kept(1, 3), api.OK)
	is(t, "End", b.End(1), api.OK)
	if x, ok := b.Txn(1); !ok || x.Outcome != book.Committed || x.At != 3 || b.Low() != 2 {
		t.Error("Txn", x, ok, b.Low())
	}
}

// The outcomes are numbers that others may have written down.
func TestOutcomes(t *testing.T) {
	if fmt.Sprint(book.Running, book.Committed, book.Aborted) != "0 1 2" {
		t.Error("outcomes")
	}
}

// Of a nil book, and of one that Open has not made.
func TestNil(t *testing.T) {
	for _, b := range []*book.Book{nil, {}} {
		refused(t, b, usual(t), 0, api.ErrNil)
		refused(t, b, flex.Spec{}, 0, api.ErrNil)
		refused(t, b, spec(t, "b a"), 0, api.ErrNil)
		for _, e := range []api.Errno{b.Cancel(1), b.Kept(1, 1), b.Failed(1, 1), b.Undone(1, 1), b.End(1), b.Save()} {
			is(t, "a call of a nil book", e, api.ErrNil)
		}
		x, ok := b.Txn(1)
		p, active := b.Plan(1)
		if ok || active || one(x, p) != one(book.Txn{}, plan.Plan{}) {
			t.Error("Txn, Plan", x, ok, p, active)
		}
		if len(b.Active()) != 0 || len(b.Over()) != 0 || b.Next() != 0 || b.Low() != 0 {
			t.Error(b.Active(), b.Over(), b.Next(), b.Low())
		}
	}
}

// P28.1: the journal's errors; a new book.
func TestOpen(t *testing.T) {
	down := disk(t, 100)
	down.Append(0, []byte("torn"))
	down.Fuse(0)
	for _, seg := range []int{15, 0, -1, api.MaxDisk + 1, math.MinInt, math.MaxInt} {
		if b, e := book.Open(disk(t, 100), seg); b != nil || e != api.ErrArg {
			t.Error("Open", seg, b, e)
		}
		if b, e := book.Open(nil, seg); b != nil || e != api.ErrNil {
			t.Error("Open", seg, b, e)
		}
	}
	if b, e := book.Open(nil, 16); b != nil || e != api.ErrNil {
		t.Error("Open of no tape", b, e)
	}
	if b, e := book.Open(down, 16); b != nil || e != api.ErrDown {
		t.Error("Open without power", b, e)
	}
	for _, seg := range []int{16, 500, api.MaxDisk} {
		b, e := book.Open(disk(t, 100), seg)
		if e != api.OK || len(b.Active()) != 0 || len(b.Over()) != 0 || b.Next() != 1 || b.Low() != 1 {
			t.Error("a new book", e, tells(b))
		}
	}
}

// P28.2: Accept, of flexible transactions that are not well-formed.
func TestAcceptRefused(t *testing.T) {
	b, k := fresh(t)
	accept(t, b, usual(t))
	wrong := usual(t)
	wrong.Subs[2].Do[0].Kind = api.Add
	stays(t, b, k, func() {
		used := k.Used()
		refused(t, b, flex.Spec{}, 0, api.ErrArg)
		refused(t, b, wrong, 2, api.ErrType)
		refused(t, b, spec(t, "a", "a b"), 0, api.ErrPath)
		refused(t, b, spec(t, "b a"), 1, api.ErrStuck)
		refused(t, b, spec(t, "d a b e", "c"), 3, api.ErrStuck)
		if k.Used() != used {
			t.Error("something was written")
		}
	})
	if accept(t, b, usual(t)) != 2 {
		t.Error("a number was used")
	}
}

// P28.2: ErrFull, if 16 are active; what is wrong with a flexible transaction is told ahead of that.
func TestAcceptMany(t *testing.T) {
	b, k := fresh(t)
	for range mostActive {
		accept(t, b, usual(t))
	}
	stays(t, b, k, func() {
		refused(t, b, usual(t), 0, api.ErrFull)
		refused(t, b, flex.Spec{}, 0, api.ErrArg)
		refused(t, b, spec(t, "b a"), 1, api.ErrStuck)
	})
	if b.Low() != 1 || b.Next() != 17 || len(b.Active()) != mostActive {
		t.Error(b.Low(), b.Next(), b.Active())
	}
	for n, g := range []int{7, 1} {
		is(t, "Cancel", b.Cancel(g), api.OK)
		is(t, "Failed", b.Failed(g, 1), api.OK)
		refused(t, b, usual(t), 0, api.ErrFull) // it is active till it ends
		is(t, "End", b.End(g), api.OK)
		accept(t, b, usual(t))
		refused(t, b, usual(t), 0, api.ErrFull)
		if b.Low() != 1+n {
			t.Error("Low", b.Low())
		}
	}
	if a := b.Active(); a[0] != 2 || slices.Contains(a, 7) || a[15] != 18 || !slices.IsSorted(a) || !slices.Equal(b.Over(), []int{7, 1}) {
		t.Error(a, b.Over())
	}
}

// P28.2: ErrFull, if next is above 2^20.
func TestAcceptLast(t *testing.T) {
	k := log(t, nats(lastG-1, 0, 0))
	b := open(t, k)
	accept(t, b, usual(t))
	accept(t, b, usual(t))
	stays(t, b, k, func() {
		refused(t, b, usual(t), 0, api.ErrFull)
		refused(t, b, spec(t, "b a"), 1, api.ErrStuck)
		is(t, "Save", b.Save(), api.OK)
	})
	is(t, "Kept", b.Kept(lastG, 1), api.OK)
	if b.Next() != lastG+1 || b.Low() != lastG-1 {
		t.Error(b.Next(), b.Low())
	}
	for _, g := range []int{lastG - 1, lastG} {
		b.Failed(g, 1)
		b.Kept(g, 2)
		is(t, "End", b.End(g), api.OK)
	}
	if b.Low() != lastG+1 {
		t.Error(b.Low())
	}
	refused(t, b, usual(t), 0, api.ErrFull)
}

// P28.2: ErrNone; and a node that may not be.
func TestNone(t *testing.T) {
	b, k := fresh(t)
	over := accept(t, b, usual(t))
	b.Failed(over, 1)
	is(t, "End", b.End(over), api.OK)
	g := accept(t, b, usual(t))
	stays(t, b, k, func() {
		for _, g := range append(nowhere, 0, over, 3, 1<<32+2) {
			for _, node := range []int{0, 1, -1, math.MaxInt} {
				is(t, "Kept", b.Kept(g, node), api.ErrNone)
				is(t, "Failed", b.Failed(g, node), api.ErrNone)
				is(t, "Undone", b.Undone(g, node), api.ErrNone)
			}
			is(t, "Cancel", b.Cancel(g), api.ErrNone)
			is(t, "End", b.End(g), api.ErrNone)
		}
		for _, node := range append(nowhere, 0, 2, 3, 4, 1<<32+1) {
			is(t, "Kept", b.Kept(g, node), api.ErrState)
			is(t, "Failed", b.Failed(g, node), api.ErrState)
			is(t, "Undone", b.Undone(g, node), api.ErrState)
		}
		is(t, "Undone", b.Undone(g, 1), api.ErrState)
		is(t, "End", b.End(g), api.ErrState)
	})
}

// P28.2, P28.4: what a transaction comes to, each decision for itself.
func TestDecisions(t *testing.T) {
	b, k := fresh(t)
	g := accept(t, b, spec(t, "a b", "a c", "e"))
	step := func(e, want api.Errno, at int, cancel bool, failed ...int) {
		t.Helper()
		is(t, "a decision", e, want)
		for _, b := range []*book.Book{b, open(t, k.Crash())} {
			x, ok := b.Txn(g)
			if !ok || x.G != g || x.At != at || !slices.Equal(x.Failed, failed) || x.Cancel != cancel || x.Outcome != book.Running {
				t.Fatal("Txn", x, ok, "not", at, cancel, failed)
			}
			if p, ok := b.Plan(g); !ok || !flex.Same(p.Spec, spec(t, "a b", "a c", "e")) || len(p.Nodes) != 5 {
				t.Fatal("Plan", p, ok)
			}
		}
	}
	step(b.Undone(g, 0), api.ErrState, 0, false)
	step(b.Kept(g, 1), api.OK, 1, false)
	step(b.End(g), api.ErrState, 1, false)
	step(b.Cancel(g), api.ErrPast, 1, false) // the pivot is next
	step(b.Failed(g, 2), api.OK, 1, false, 2)
	step(b.Failed(g, 2), api.ErrState, 1, false, 2)
	step(b.Cancel(g), api.ErrPast, 1, false, 2) // c can't be taken back either
	step(b.Failed(g, 3), api.OK, 1, false, 2, 3)
	step(b.Undone(g, 1), api.OK, 0, false, 1, 2, 3)
	step(b.Cancel(g), api.OK, 0, true, 1, 2, 3)
	step(b.End(g), api.ErrState, 0, true, 1, 2, 3) // e is to be dropped
	step(b.Kept(g, 4), api.OK, 4, true, 1, 2, 3)
	step(b.Cancel(g), api.ErrPast, 4, true, 1, 2, 3)
	step(b.End(g), api.ErrState, 4, true, 1, 2, 3)
	step(b.Undone(g, 4), api.OK, 0, true, 1, 2, 3, 4)
	is(t, "End", b.End(g), api.OK)
	for _, b := range []*book.Book{b, open(t, k.Crash())} {
		if x, ok := b.Txn(g); !ok || fmt.Sprint(x) != fmt.Sprint(book.Txn{G: g, Outcome: book.Aborted}) {
			t.Error("Txn", x, ok)
		}
		if p, ok := b.Plan(g); ok || len(p.Nodes) != 0 || len(p.Subs) != 0 || len(p.Paths) != 0 {
			t.Error("Plan", p, ok)
		}
	}
}

// P28.4: of one that is over At is as it was, and nothing is told of what failed.
func TestOver(t *testing.T) {
	b, k := fresh(t)
	want := ""
	const rounds = mostOver + 20
	for n := range rounds {
		g := accept(t, b, spec(t, "a b", "a c"))
		other := accept(t, b, spec(t, "d", "c"))
		is(t, "Cancel", b.Cancel(other), api.OK)
		b.Failed(other, 1)
		b.Kept(g, 1)
		node := 2
		if n%3 > 0 {
			b.Failed(g, 2)
			node = 3
		}
		b.Kept(g, node)
		is(t, "End", b.End(other), api.OK) // the later one ends first
		is(t, "End", b.End(g), api.OK)
		if n >= rounds-mostOver/2 {
			want += fmt.Sprintln(other, 0, book.Aborted) + fmt.Sprintln(g, node, book.Committed)
		}
	}
	same := func(what string, b *book.Book) {
		t.Helper()
		got := ""
		for _, g := range b.Over() {
			x, ok := b.Txn(g)
			if !ok || x.G != g || len(x.Failed) > 0 || x.Cancel {
				t.Error("Txn", x, ok)
			}
			got += fmt.Sprintln(x.G, x.At, x.Outcome)
		}
		if got != want || len(b.Over()) != mostOver {
			t.Error(what, got, "not", want)
		}
		oldest := slices.Min(b.Over())
		for g := range oldest {
			if x, ok := b.Txn(g); ok || one(x, plan.Plan{}) != one(book.Txn{}, plan.Plan{}) {
				t.Error("forgotten", x, ok)
			}
		}
	}
	same("over", b)
	same("opened", open(t, k.Crash()))
	is(t, "Save", b.Save(), api.OK)
	same("saved", b)
	same("saved and opened", open(t, k.Crash()))
}

// The rules: no list that is handed in is kept, and none that is told shares anything with the book.
func TestShared(t *testing.T) {
	b, k := fresh(t)
	p := usual(t)
	g := accept(t, b, p)
	b.Kept(g, 1)
	b.Failed(g, 2)
	accept(t, b, spec(t, "d"))
	b.Failed(2, 1)
	b.End(2)
	stays(t, b, k, func() {
		p.Subs[0].Do[0].N, p.Subs[0].Undo[0].N, p.Subs[1].Name, p.Paths[0][0] = 99, 99, "zz", 4
		x, _ := b.Txn(g)
		clear(x.Failed)
		_ = append(x.Failed, 3)
		q, _ := b.Plan(g)
		q.Subs[0].Do[0].N, q.Subs[0].Undo[0].N, q.Subs[1].Name, q.Paths[0][0] = 77, 77, "yy", 3
		q.Nodes[1].Kids[0], q.Nodes[2].Sub = 0, 7
		clear(b.Active())
		clear(b.Over())
	})
	is(t, "Save", b.Save(), api.OK)
	is(t, "Kept", b.Kept(g, 3), api.OK)
	is(t, "End", b.End(g), api.OK)
}
