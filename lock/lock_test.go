package lock_test

import (
	"math"
	"slices"
	"strings"
	"testing"

	"byroad/api"
	"byroad/lock"
)

const (
	long    = "abcdefghijklmnop"
	tooLong = long + "q"
	last    = 1 << 30
)

// step is a question, and what is answered.
type step struct {
	who  int
	key  string
	mine bool
	want api.Errno
}

// asks fails the test, if a question is not answered so.
func asks(t *testing.T, l *lock.Table, steps ...step) {
	t.Helper()
	for i, s := range steps {
		if e := l.Ask(s.who, s.key, s.mine); e != s.want {
			t.Fatalf("%d: Ask(%d, %q, %v): %d, not %d", i, s.who, s.key, s.mine, e, s.want)
		}
	}
}

// frees fails the test, if a Release does not tell these.
func frees(t *testing.T, l *lock.Table, who int, want ...int) {
	t.Helper()
	if got := l.Release(who); !slices.Equal(got, want) {
		t.Fatalf("Release(%d): %v, not %v", who, got, want)
	}
}

// holds fails the test, if one does not hold just these.
func holds(t *testing.T, l *lock.Table, who int, want ...lock.Hold) {
	t.Helper()
	if got := l.Holds(who); !slices.Equal(got, want) {
		t.Errorf("Holds(%d): %v, not %v", who, got, want)
	}
}

// waits fails the test, if one does not wait for this.
func waits(t *testing.T, l *lock.Table, who int, want lock.Hold) {
	t.Helper()
	if got, ok := l.Waits(who); got != want || !ok {
		t.Errorf("Waits(%d): %v %v, not %v", who, got, ok, want)
	}
}

// free fails the test, if one waits.
func free(t *testing.T, l *lock.Table, who ...int) {
	t.Helper()
	for _, w := range who {
		if got, ok := l.Waits(w); got != (lock.Hold{}) || ok {
			t.Errorf("Waits(%d): %v %v", w, got, ok)
		}
	}
}

// edges fails the test, if there are not just these edges: from, to, from, to ..
func edges(t *testing.T, l *lock.Table, want ...int) {
	t.Helper()
	var got []int
	for _, e := range l.Edges() {
		got = append(got, e.From, e.To)
	}
	if !slices.Equal(got, want) {
		t.Errorf("Edges: %v, not %v", got, want)
	}
}

// there fails the test, if not just these hold or wait.
func there(t *testing.T, l *lock.Table, want ...int) {
	t.Helper()
	if got := l.Who(); !slices.Equal(got, want) {
		t.Errorf("Who: %v, not %v", got, want)
	}
}

// The chapter's example.
func TestExample(t *testing.T) {
	l := lock.New()
	asks(t, l,
		step{1, "a", false, api.OK}, step{2, "a", false, api.OK}, step{3, "a", true, api.ErrBusy},
		step{4, "a", false, api.ErrBusy}, step{1, "a", true, api.ErrBusy})
	edges(t, l, 1, 2, 3, 1, 3, 2, 4, 1, 4, 3)
	there(t, l, 1, 2, 3, 4)
	frees(t, l, 2, 1)
	holds(t, l, 1, lock.Hold{Key: "a", Mine: true})
	free(t, l, 1, 2)
	edges(t, l, 3, 1, 4, 1, 4, 3)
}

// P9.1: who may not be, and which key.
func TestAskWrong(t *testing.T) {
	l := lock.New()
	for _, who := range []int{0, -1, last + 1, math.MinInt, math.MaxInt} {
		asks(t, l, step{who, "a", true, api.ErrArg}, step{who, "", false, api.ErrArg}, step{who, tooLong, false, api.ErrArg})
	}
	asks(t, l, step{1, tooLong, true, api.ErrArg}, step{1, strings.Repeat("x", 3000), false, api.ErrArg})
	there(t, l)
	edges(t, l)
	asks(t, l, step{1, long, true, api.OK}, step{last, "", true, api.OK}, step{last, "\xff~ A", true, api.OK}, step{last, long, false, api.ErrBusy})
	there(t, l, 1, last)
	edges(t, l, last, 1)
	// One that waits is told first of what may not be.
	asks(t, l, step{last, tooLong, false, api.ErrArg}, step{0, long, false, api.ErrArg}, step{last, long, false, api.ErrBusy})
	waits(t, l, last, lock.Hold{Key: long})
}

// P9.1: what one that waits is told; nothing is changed by it.
func TestAskAgain(t *testing.T) {
	l := lock.New()
	asks(t, l,
		step{1, "a", true, api.OK}, step{3, "c", true, api.OK}, step{2, "b", false, api.OK}, step{2, "a", false, api.ErrBusy}, step{3, "a", true, api.ErrBusy},
		step{2, "a", false, api.ErrBusy}, step{2, "a", true, api.ErrState}, step{2, "q", false, api.ErrState}, step{2, "q", true, api.ErrState},
		step{2, "b", false, api.ErrState}, step{2, "b", true, api.ErrState},
		step{3, "a", false, api.ErrState}, step{3, "a", true, api.ErrBusy}, step{3, "c", true, api.ErrState})
	waits(t, l, 2, lock.Hold{Key: "a"})
	waits(t, l, 3, lock.Hold{Key: "a", Mine: true})
	holds(t, l, 2, lock.Hold{Key: "b"})
	holds(t, l, 3, lock.Hold{Key: "c", Mine: true})
	edges(t, l, 2, 1, 3, 1, 3, 2)
	frees(t, l, 1, 2)
	frees(t, l, 2, 3)
	there(t, l, 3)
}

// P9.1: a raise that waits is told so again.
func TestAskRaiseAgain(t *testing.T) {
	l := lock.New()
	asks(t, l, step{1, "a", false, api.OK}, step{2, "a", false, api.OK}, step{1, "a", true, api.ErrBusy},
		step{1, "a", true, api.ErrBusy}, step{1, "a", false, api.ErrState})
	holds(t, l, 1, lock.Hold{Key: "a"})
	waits(t, l, 1, lock.Hold{Key: "a", Mine: true})
	edges(t, l, 1, 2)
	// The other one has the key already, whoever waits.
	asks(t, l, step{2, "a", false, api.OK})
	frees(t, l, 1)
	holds(t, l, 2, lock.Hold{Key: "a"})
	there(t, l, 2)
}

// P9.1: what one has already changes nothing.
func TestAskHeld(t *testing.T) {
	l := lock.New()
	asks(t, l, step{1, "a", true, api.OK}, step{1, "a", true, api.OK}, step{1, "a", false, api.OK}, step{1, "b", false, api.OK}, step{1, "b", false, api.OK})
	holds(t, l, 1, lock.Hold{Key: "a", Mine: true}, lock.Hold{Key: "b"})
	asks(t, l, step{2, "a", false, api.ErrBusy}, step{1, "a", false, api.OK}, step{1, "a", true, api.OK})
	edges(t, l, 2, 1)
	frees(t, l, 1, 2)
	holds(t, l, 2, lock.Hold{Key: "a"})
}

// P9.1: who holds a key alone has it for its own at once, though others wait for it.
func TestAskRaiseAlone(t *testing.T) {
	l := lock.New()
	asks(t, l, step{1, "a", false, api.OK}, step{1, "a", true, api.OK})
	holds(t, l, 1, lock.Hold{Key: "a", Mine: true})
	asks(t, l, step{2, "b", false, api.OK}, step{3, "b", true, api.ErrBusy}, step{4, "b", false, api.ErrBusy}, step{2, "b", true, api.OK})
	holds(t, l, 2, lock.Hold{Key: "b", Mine: true})
	free(t, l, 2)
	edges(t, l, 3, 2, 4, 2, 4, 3)
	frees(t, l, 2, 3)
	frees(t, l, 3, 4)
}

// P9.1: a row is not passed by, though one's lock would go together with those that are held.
func TestAskBehind(t *testing.T) {
	l := lock.New()
	asks(t, l, step{1, "a", false, api.OK}, step{2, "a", true, api.ErrBusy}, step{3, "a", false, api.ErrBusy}, step{4, "a", false, api.ErrBusy}, step{5, "a", true, api.ErrBusy})
	edges(t, l, 2, 1, 3, 2, 4, 2, 5, 1, 5, 2, 5, 3, 5, 4)
	frees(t, l, 1, 2)
	frees(t, l, 2, 3, 4)
	edges(t, l, 5, 3, 5, 4)
	frees(t, l, 4)
	frees(t, l, 3, 5)
	holds(t, l, 5, lock.Hold{Key: "a", Mine: true})
	frees(t, l, 5)
	there(t, l)
}

// Raises stand ahead of all others, among themselves as they came.
func TestRaises(t *testing.T) {
	l := lock.New()
	asks(t, l, step{1, "a", false, api.OK}, step{2, "a", false, api.OK}, step{3, "a", false, api.OK}, step{9, "a", true, api.ErrBusy}, step{8, "a", false, api.ErrBusy},
		step{3, "a", true, api.ErrBusy}, step{7, "a", true, api.ErrBusy}, step{2, "a", true, api.ErrBusy})
	edges(t, l, 2, 1, 2, 3, 3, 1, 3, 2, 7, 1, 7, 2, 7, 3, 7, 8, 7, 9, 8, 2, 8, 3, 8, 9, 9, 1, 9, 2, 9, 3)
	// 3 came ahead of 2, but 2 holds the key as well, and the other way round: only one of them can go on.
	frees(t, l, 1)
	frees(t, l, 2, 3)
	holds(t, l, 3, lock.Hold{Key: "a", Mine: true})
	edges(t, l, 7, 3, 7, 8, 7, 9, 8, 3, 8, 9, 9, 3)
	frees(t, l, 3, 9)
	frees(t, l, 9, 8)
	frees(t, l, 8, 7)
}

// P9.2: all that one has is gone, and the rows of all its keys are served.
func TestRelease(t *testing.T) {
	l := lock.New()
	frees(t, l, 1)
	for _, who := range []int{0, -5, math.MaxInt, math.MinInt} {
		frees(t, l, who)
	}
	asks(t, l,
		step{1, "b", true, api.OK}, step{1, "a", true, api.OK}, step{1, "c", false, api.OK}, step{2, "d", true, api.OK},
		step{9, "a", false, api.ErrBusy}, step{3, "a", false, api.ErrBusy}, step{4, "a", true, api.ErrBusy}, step{5, "c", true, api.ErrBusy},
		step{6, "b", true, api.ErrBusy}, step{7, "b", true, api.ErrBusy}, step{1, "d", false, api.ErrBusy}, step{8, "d", false, api.ErrBusy})
	frees(t, l, 1, 3, 5, 6, 9)
	holds(t, l, 1)
	free(t, l, 1, 3, 5, 6, 9)
	holds(t, l, 9, lock.Hold{Key: "a"})
	waits(t, l, 4, lock.Hold{Key: "a", Mine: true})
	there(t, l, 2, 3, 4, 5, 6, 7, 8, 9)
	edges(t, l, 4, 3, 4, 9, 7, 6, 8, 2)
	frees(t, l, 1)
}

// P9.2: one that only waits is struck from the row, and who stood behind it is served.
func TestReleaseWaiting(t *testing.T) {
	l := lock.New()
	asks(t, l, step{1, "a", false, api.OK}, step{2, "a", true, api.ErrBusy}, step{4, "a", false, api.ErrBusy}, step{3, "a", false, api.ErrBusy}, step{5, "a", true, api.ErrBusy}, step{6, "a", false, api.ErrBusy})
	frees(t, l, 2, 3, 4)
	holds(t, l, 3, lock.Hold{Key: "a"})
	edges(t, l, 5, 1, 5, 3, 5, 4, 6, 5)
	frees(t, l, 6)
	frees(t, l, 5)
	there(t, l, 1, 3, 4)
	// A raise that is given up gives its own lock away too.
	asks(t, l, step{1, "a", true, api.ErrBusy}, step{7, "a", false, api.ErrBusy})
	frees(t, l, 1, 7)
	there(t, l, 3, 4, 7)
}

// P9.3
func TestTold(t *testing.T) {
	l := lock.New()
	there(t, l)
	edges(t, l)
	holds(t, l, 1)
	free(t, l, 0, 1)
	asks(t, l, step{7, "c", false, api.OK}, step{7, "", true, api.OK}, step{7, "\xff", false, api.OK}, step{7, "ab", true, api.OK}, step{7, "a", false, api.OK}, step{3, "c", false, api.OK})
	holds(t, l, 7, lock.Hold{Mine: true}, lock.Hold{Key: "a"}, lock.Hold{Key: "ab", Mine: true}, lock.Hold{Key: "c"}, lock.Hold{Key: "\xff"})
	asks(t, l, step{2, "c", true, api.ErrBusy}, step{5, "", false, api.ErrBusy})
	waits(t, l, 2, lock.Hold{Key: "c", Mine: true})
	waits(t, l, 5, lock.Hold{})
	free(t, l, 7, 3, 4)
	there(t, l, 2, 3, 5, 7)
	edges(t, l, 2, 3, 2, 7, 5, 7)
}

// P9.3: what a caller writes into an answer is seen nowhere, and a question changes nothing.
func TestShared(t *testing.T) {
	l := lock.New()
	asks(t, l, step{1, "a", false, api.OK}, step{2, "a", false, api.OK}, step{1, "b", true, api.OK}, step{3, "a", true, api.ErrBusy})
	for range 2 {
		h, e, w := l.Holds(1), l.Edges(), l.Who()
		clear(h)
		clear(e)
		clear(w)
		_, _, _ = append(h[:1], lock.Hold{Key: "z"}), append(e[:1], lock.Edge{From: 9}), append(w[:1], 9)
	}
	holds(t, l, 1, lock.Hold{Key: "a"}, lock.Hold{Key: "b", Mine: true})
	edges(t, l, 3, 1, 3, 2)
	there(t, l, 1, 2, 3)
	clear(l.Release(1))
	frees(t, l, 2, 3)
}

// P9.3: a copy goes a way of its own.
func TestCopy(t *testing.T) {
	l := lock.New()
	asks(t, l, step{1, "a", false, api.OK}, step{2, "a", false, api.OK}, step{3, "a", true, api.ErrBusy}, step{4, "a", false, api.ErrBusy}, step{5, "b", true, api.OK}, step{6, "b", false, api.ErrBusy})
	c := l.Copy()
	frees(t, c, 1)
	frees(t, c, 2, 3)
	frees(t, c, 5, 6)
	asks(t, c, step{1, "a", true, api.ErrBusy}, step{7, "d", true, api.OK})
	holds(t, l, 1, lock.Hold{Key: "a"})
	free(t, l, 1, 7)
	edges(t, l, 3, 1, 3, 2, 4, 3, 6, 5)
	there(t, l, 1, 2, 3, 4, 5, 6)
	frees(t, l, 3, 4)
	asks(t, l, step{2, "a", true, api.ErrBusy}, step{5, "c", true, api.OK})
	holds(t, c, 5)
	there(t, c, 1, 3, 4, 6, 7)
	edges(t, c, 1, 3, 1, 4, 4, 3)
	// Also of a row out of whose middle one goes.
	d := c.Copy()
	asks(t, d, step{2, "a", true, api.ErrBusy})
	frees(t, d, 4)
	asks(t, c, step{8, "a", false, api.ErrBusy})
	edges(t, d, 1, 3, 2, 1, 2, 3)
	edges(t, c, 1, 3, 1, 4, 4, 3, 8, 1, 8, 3)
}

// The chapter's words on a nil table.
func TestNil(t *testing.T) {
	var l *lock.Table
	asks(t, l, step{1, "a", true, api.ErrNil}, step{0, tooLong, false, api.ErrNil})
	h, ok := l.Waits(1)
	if l.Release(1) != nil || l.Holds(1) != nil || h != (lock.Hold{}) || ok || l.Edges() != nil || l.Who() != nil || l.Copy() != nil {
		t.Error("something is told")
	}
}

// A table that nobody made has no locks, and can be used.
func TestZero(t *testing.T) {
	var l lock.Table
	there(t, &l)
	edges(t, &l)
	free(t, &l, 1)
	frees(t, &l, 1)
	there(t, l.Copy())
	asks(t, l.Copy(), step{1, "a", true, api.OK})
	asks(t, &l, step{0, "a", true, api.ErrArg}, step{2, "a", true, api.OK}, step{3, "a", false, api.ErrBusy})
	edges(t, &l, 3, 2)
}
