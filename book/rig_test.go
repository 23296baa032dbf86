package book_test

import (
	"fmt"
	"slices"
	"strings"
	"testing"

	"byroad/api"
	"byroad/book"
	"byroad/flex"
	"byroad/journal"
	"byroad/octet"
	"byroad/plan"
	"byroad/tape"
)

const (
	lastG      = 1 << 20
	mostActive = 16
	mostOver   = 64
)

// subs are subtransactions of all types.
const subs = "sub a 0 comp add x 5 | back x -5\nsub b 1 pivot put z 3\nsub c 2 retry put w 1\nsub d 2 both put v 1 | del v\nsub e 0 comp put u 1 | del u"

// spec is the flexible transaction of the usual subtransactions and these paths, each of names.
func spec(t *testing.T, paths ...string) flex.Spec {
	t.Helper()
	p, at, e := flex.Parse(subs + "\npath " + strings.Join(paths, "\npath "))
	if e != api.OK {
		t.Fatal("Parse", paths, at, e)
	}
	return p
}

// usual is layer 23's example: the nodes 1 to 3 are a, b and c.
func usual(t *testing.T) flex.Spec {
	t.Helper()
	return spec(t, "a b", "a c")
}

// disk is a tape of that room.
func disk(t *testing.T, room int) *tape.Tape {
	t.Helper()
	k, e := tape.New(room)
	is(t, "the tape's New", e, api.OK)
	return k
}

// open is the book on a tape.
func open(t *testing.T, k *tape.Tape) *book.Book {
	t.Helper()
	b, e := book.Open(k, 8000)
	if e != api.OK || b == nil {
		t.Fatal("Open", e)
	}
	return b
}

// fresh is a book on an empty tape, and that.
func fresh(t *testing.T) (*book.Book, *tape.Tape) {
	t.Helper()
	k := disk(t, api.MaxDisk)
	return open(t, k), k
}

// is fails the test, if a call does not answer just that.
func is(t *testing.T, what string, got, want api.Errno) {
	t.Helper()
	if got != want {
		t.Fatal(what, "answers", got, "not", want)
	}
}

// accept takes a flexible transaction in that must be right.
func accept(t *testing.T, b *book.Book, p flex.Spec) int {
	t.Helper()
	next := b.Next()
	g, place, e := b.Accept(p)
	if g != next || place != 0 || e != api.OK {
		t.Fatal("Accept", g, place, e, "not", next)
	}
	return g
}

// refused fails the test, if Accept does not answer that.
func refused(t *testing.T, b *book.Book, p flex.Spec, place int, want api.Errno) {
	t.Helper()
	if g, at, e := b.Accept(p); g != 0 || at != place || e != want {
		t.Error("Accept", g, at, e, "not", place, want)
	}
}

// one is how a transaction is told.
func one(x book.Txn, p plan.Plan) string {
	return fmt.Sprintln(x.G, x.At, x.Failed, x.Cancel, x.Outcome, p.Nodes) + flex.Print(p.Spec)
}

// tells is all that a book tells.
func tells(b *book.Book) string {
	s := fmt.Sprintln(b.Next(), b.Low(), b.Active(), b.Over())
	for _, g := range slices.Concat(b.Active(), b.Over(), []int{-1, 0, b.Next(), lastG}) {
		x, ok := b.Txn(g)
		p, active := b.Plan(g)
		s += fmt.Sprintln(g, ok, active) + one(x, p)
	}
	return s
}

// stays fails the test, if a call changes anything that a book tells, now or opened again.
func stays(t *testing.T, b *book.Book, k *tape.Tape, call func()) {
	t.Helper()
	was := tells(b)
	call()
	if tells(b) != was {
		t.Error("changed", tells(b), "not", was)
	}
	x := whole(k)
	x.Fuse(-1)
	if again := tells(open(t, x)); again != was {
		t.Error("opened", again, "not", was)
	}
}

// whole is what a tape would be if all that is on it lasted.
func whole(k *tape.Tape) *tape.Tape {
	return k.Crash(slices.Repeat([]int{api.MaxDisk}, api.MaxSegs)...)
}

// nats is the bytes of numbers.
func nats(l ...uint64) []byte {
	var b []byte
	for _, n := range l {
		b = append(b, octet.Nat(n)...)
	}
	return b
}

// text is the bytes of a flexible transaction, as a text.
func text(p flex.Spec) []byte { return octet.Str(string(flex.Encode(p))) }

// accepted is the bytes of a record by which a flexible transaction is accepted.
func accepted(g uint64, p flex.Spec) []byte { return octet.Seq(nats(1, g), text(p)) }

// log is a tape with a checkpoint (without one, if it is nil) and records.
func log(t *testing.T, state []byte, recs ...[]byte) *tape.Tape {
	t.Helper()
	k := disk(t, api.MaxDisk)
	j, e := journal.Open(k, api.MaxDisk)
	is(t, "the journal's Open", e, api.OK)
	if state != nil {
		is(t, "the journal's Save", j.Save(state), api.OK)
	}
	is(t, "the journal's Write", j.Write(recs...), api.OK)
	return k
}
