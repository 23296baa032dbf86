package coord_test

import (
	"fmt"
	"slices"
	"strings"
	"testing"

	"byroad/api"
	"byroad/book"
	"byroad/coord"
	"byroad/mess"
	"byroad/ops"
	"byroad/tape"
)

// maxTime is the greatest time.
const maxTime = 1 << 40

// subs are subtransactions of all types: a and e can be taken back, c and d are sure, d can be taken back too, b is a pivot.
const subs = "sub a 0 comp add x 5 | back x -5\nsub b 1 pivot put z 3\nsub c 2 retry put w 1\nsub d 2 both put v 1 | del v\nsub e 0 comp put u 1 | del u\npath "

// usual is layer 23's example, but with subtransactions that it does not need: the nodes 1 to 3 are a, b and c.
const usual = subs + "a b\npath a c"

// rig is a manager, and its tape.
type rig struct {
	t *testing.T
	k *tape.Tape
	c *coord.Coord
}

// fresh is a rig over an empty tape; every is 3.
func fresh(t *testing.T, texts ...string) *rig {
	t.Helper()
	k, e := tape.New(api.MaxDisk)
	is(t, "the tape's New", e, api.OK)
	r := &rig{t: t, k: k}
	r.open()
	for i, s := range texts {
		r.submit(s, i+1)
	}
	return r
}

// open opens the manager that is on the tape.
func (r *rig) open() {
	r.t.Helper()
	c, e := coord.Open(r.k, 8000, 3)
	if e != api.OK || c == nil {
		r.t.Fatal("Open", e)
	}
	r.c = c
}

// crash lets the power fail, and opens what lasts.
func (r *rig) crash() {
	r.t.Helper()
	r.k = r.k.Crash()
	r.open()
}

// full leaves no room on the tape; roomy gives it back.
func (r *rig) full()  { is(r.t, "Room", r.k.Room(r.k.Used()), api.OK) }
func (r *rig) roomy() { is(r.t, "Room", r.k.Room(api.MaxDisk), api.OK) }

// is fails the test, if a call does not answer just that.
func is(t *testing.T, what string, got, want api.Errno) {
	t.Helper()
	if got != want {
		t.Fatal(what, "answers", got, "not", want)
	}
}

// submit submits a text that must be accepted.
func (r *rig) submit(text string, want int) {
	r.t.Helper()
	if g, at, e := r.c.Submit(text); g != want || at != 0 || e != api.OK {
		r.t.Fatal("Submit", g, at, e, "not", want)
	}
}

// refused fails the test, if a text is not refused just so.
func (r *rig) refused(text string, line int, want api.Errno) {
	r.t.Helper()
	if g, at, e := r.c.Submit(text); g != 0 || at != line || e != want {
		r.t.Error("Submit", text, g, at, e, "not", line, want)
	}
}

// words is what kinds of messages are called here.
func words() map[int]string {
	return map[int]string{
		mess.Run: "run", mess.Keep: "keep", mess.Drop: "drop", mess.Undo: "undo", mess.Held: "held",
		mess.Failed: "failed", mess.Kept: "kept", mess.Lost: "lost", mess.Dropped: "dropped", mess.Undone: "undone",
	}
}

// says is what requests say: kind, G, node, try, to whom, low, operations, as in "run 1.2/1 >2 @1 put z 3".
func says(t *testing.T, l ...mess.Msg) string {
	t.Helper()
	var all []string
	for _, m := range l {
		if !mess.May(m) || m.From != 0 {
			t.Fatal("a request that may not be:", m)
		}
		s := fmt.Sprintf("%s %d.%d", words()[m.Kind], m.G, m.Node)
		if m.Kind != mess.Drop {
			s += fmt.Sprintf("/%d", m.Try)
		}
		s += fmt.Sprintf(" >%d @%d %s", m.To, m.Low, ops.Print(m.Ops...))
		all = append(all, strings.TrimSpace(s))
	}
	return strings.Join(all, ", ")
}

// answer is a reply of some kind to a request.
func answer(q mess.Msg, kind int) mess.Msg {
	m := mess.Answer(q, kind)
	switch kind {
	case mess.Held:
		m.Ticket, m.Told = 7, []int64{5}
	case mess.Failed, mess.Lost:
		m.Code = api.ErrKilled
	}
	return m
}

// reply is the reply that a text says to the open request of a global transaction, as in "held 1".
func (r *rig) reply(text string) mess.Msg {
	r.t.Helper()
	var word string
	var g int
	if _, err := fmt.Sscan(text, &word, &g); err != nil {
		r.t.Fatal(text, err)
	}
	q, asks := r.c.Request(g)
	for kind, w := range words() {
		if w == word && asks {
			return answer(q, kind)
		}
	}
	r.t.Fatal("no reply", text, asks)
	return mess.Msg{}
}

// tick fails the test, if Tick does not send just that.
func (r *rig) tick(now int64, want string) {
	r.t.Helper()
	if got := says(r.t, r.c.Tick(now)...); got != want {
		r.t.Fatalf("Tick at %d: %q, not %q", now, got, want)
	}
}

// on fails the test, if behind a reply not just that is sent.
func (r *rig) on(now int64, text, want string) {
	r.t.Helper()
	if got := says(r.t, r.c.Handle(r.reply(text), now)...); got != want {
		r.t.Fatalf("at %d %s: %q, not %q", now, text, got, want)
	}
}

// does lets replies come, one by one, whatever is sent then.
func (r *rig) does(now int64, texts ...string) {
	r.t.Helper()
	for _, s := range texts {
		r.c.Handle(r.reply(s), now)
	}
}

// asks fails the test, if the request of a global transaction is not just that; none, if it is "".
func (r *rig) asks(g int, want string) {
	r.t.Helper()
	q, asks := r.c.Request(g)
	got := ""
	if asks {
		got = says(r.t, q)
	}
	if got != want || !asks && !mess.Same(q, mess.Msg{}) {
		r.t.Fatalf("the request of %d: %q, not %q", g, got, want)
	}
}

// stands fails the test, if a global transaction has not come just so far.
func (r *rig) stands(g, outcome, at int, cancel bool, failed ...int) {
	r.t.Helper()
	x, e := r.c.Status(g)
	if e != api.OK || x.G != g || x.Outcome != outcome || x.At != at || x.Cancel != cancel || !slices.Equal(x.Failed, failed) {
		r.t.Fatal("Status", g, x, e, "not", outcome, at, cancel, failed)
	}
}

// over fails the test, if a global transaction is not over just so.
func (r *rig) over(g, outcome, at int) {
	r.t.Helper()
	r.stands(g, outcome, at, false)
	if slices.Contains(r.c.List(), g) || r.c.Size(g) != 0 {
		r.t.Fatal(g, "is not over", r.c.List())
	}
	r.asks(g, "")
}

// lasting is what a manager tells that has to last.
func lasting(c *coord.Coord) string {
	s := fmt.Sprintln(c.Next(), c.Low(), c.List(), c.Users())
	for g := -1; g <= c.Next(); g++ {
		x, e := c.Status(g)
		if e != api.OK && fmt.Sprint(x) != fmt.Sprint(book.Txn{}) {
			s += "beside an error "
		}
		s += fmt.Sprintln(g, x, e, c.Size(g))
	}
	return s
}

// tells is all that a manager tells.
func tells(t *testing.T, c *coord.Coord) string {
	t.Helper()
	s := lasting(c)
	for g := range c.Next() + 1 {
		if q, asks := c.Request(g); asks {
			s += says(t, q) + "\n"
		}
	}
	return s
}

// stays fails the test, if a call changes anything that is told, now or by a manager that is opened again.
func (r *rig) stays(call func()) {
	r.t.Helper()
	was, lasts := tells(r.t, r.c), lasting(r.c)
	call()
	if got := tells(r.t, r.c); got != was {
		r.t.Error("changed", got, "not", was)
	}
	x := r.k.Crash()
	again, e := coord.Open(x, 8000, 3)
	if e != api.OK || lasting(again) != lasts {
		r.t.Error("opened", e, lasting(again), "not", lasts)
	}
}
