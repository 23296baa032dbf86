package book_test

import (
	"fmt"
	"math/rand"
	"slices"
	"testing"

	"byroad/api"
	"byroad/book"
	"byroad/flex"
	"byroad/plan"
	"byroad/tape"
)

// entry is an active transaction, and its plan.
type entry struct {
	book.Txn
	p plan.Plan
}

// model is a book by the chapter's words.
type model struct {
	next   int
	active []entry // rising
	over   []book.Txn
}

// at is the place of an active transaction; -1, if there is none.
func (m model) at(g int) int {
	return slices.IndexFunc(m.active, func(x entry) bool { return x.G == g })
}

// tells is all that a book tells that is as the model.
func (m model) tells() string {
	var active, over []int
	low := m.next
	for i, x := range m.active {
		if i == 0 {
			low = x.G
		}
		active = append(active, x.G)
	}
	for _, x := range m.over {
		over = append(over, x.G)
	}
	s := fmt.Sprintln(m.next, low, active, over)
	for _, x := range m.active {
		s += fmt.Sprintln(x.G, true, true) + one(x.Txn, x.p)
	}
	for _, x := range m.over {
		s += fmt.Sprintln(x.G, true, false) + one(x, plan.Plan{})
	}
	for _, g := range []int{-1, 0, m.next, lastG} {
		s += fmt.Sprintln(g, false, false) + one(book.Txn{}, plan.Plan{})
	}
	return s
}

// accept is the model behind an Accept, and what that answers.
func (m model) accept(p flex.Spec) (model, int, int, api.Errno) {
	x, place, e := plan.Of(p)
	if e != api.OK {
		return m, 0, place, e
	}
	if len(m.active) == mostActive {
		return m, 0, 0, api.ErrFull
	}
	m.active = append(slices.Clone(m.active), entry{book.Txn{G: m.next}, x})
	m.next++
	return m, m.next - 1, 0, api.OK
}

// decide is the model behind another decision, and what that answers.
func (m model) decide(kind string, g, node int) (model, api.Errno) {
	i := m.at(g)
	if i < 0 {
		return m, api.ErrNone
	}
	m.active = slices.Clone(m.active)
	x := &m.active[i]
	s, e := plan.State{}, api.OK
	switch kind {
	case "kept":
		s, e = x.p.Kept(x.State, node)
	case "failed":
		s, e = x.p.Failed(x.State, node)
	case "undone":
		s, e = x.p.Undone(x.State, node)
	case "cancel":
		s, e = x.p.Cancelled(x.State)
	case "end":
		return m.end(i)
	}
	x.State = s
	return m, e
}

// end is the model behind an End of the active transaction at a place.
func (m model) end(i int) (model, api.Errno) {
	x := m.active[i]
	kind := x.p.Next(x.State).Kind
	if kind != plan.Commit && kind != plan.Abort {
		return m, api.ErrState
	}
	t := book.Txn{G: x.G, Outcome: book.Committed}
	t.At = x.At
	if kind == plan.Abort {
		t.Outcome = book.Aborted
	}
	m.active = slices.Delete(m.active, i, i+1)
	m.over = append(slices.Clone(m.over), t)
	m.over = m.over[max(0, len(m.over)-mostOver):]
	return m, api.OK
}

// begun is a model with so many that are over, and nobody who is active.
func begun(many int) model {
	m := model{next: many + 1}
	for g := range many {
		x := book.Txn{G: g + 1, Outcome: 1 + g%2}
		x.At = g * 4
		m.over = append(m.over, x)
	}
	return m
}

// bytes is the bytes of a checkpoint of a model in which nobody is active.
func (m model) bytes() []byte {
	b := nats(uint64(m.next), 0, uint64(len(m.over)))
	for _, x := range m.over {
		b = append(b, nats(uint64(x.G), uint64(x.Outcome), uint64(x.At))...)
	}
	return b
}

// life is a book from one loss of power to the next one.
type life struct {
	t     *testing.T
	r     *rand.Rand
	k     *tape.Tape
	b     *book.Book
	m     model
	under model // what the call that was under way would have come to
	specs []flex.Spec
	seen  map[string]int
}

// count lets a call count that answered e: next is the model behind it, if it is OK, which it would be by the model.
func (l *life) count(name string, next model, e, want api.Errno) {
	l.t.Helper()
	l.seen[fmt.Sprint(name, " ", e)]++
	switch {
	case want != api.OK:
		is(l.t, name, e, want)
	case e == api.OK:
		l.m = next
	case e == api.ErrDown:
		l.under = next
	default:
		is(l.t, name, e, api.ErrFull) // of the tape
		if l.k.Free() > 3000 && len(l.k.Segs()) < api.MaxSegs {
			l.t.Fatal(name, "there is room")
		}
	}
}

// accept does some Accept of both.
func (l *life) accept() {
	p := l.specs[l.r.Intn(len(l.specs))]
	next, want, place, wrong := l.m.accept(p)
	g, at, e := l.b.Accept(p)
	l.count("accept", next, e, wrong)
	if e != api.OK && g != 0 || e == api.OK && g != want || at != place {
		l.t.Fatal("Accept", g, at, e, "not", want, place, wrong)
	}
}

// any is a decision that may be none, of any transaction.
func (l *life) any() (string, int, int) {
	g := l.r.Intn(l.m.next + 2)
	if n := len(l.m.active); n > 0 && l.r.Intn(8) > 0 {
		g = l.m.active[l.r.Intn(n)].G
	}
	return []string{"kept", "failed", "undone", "cancel", "end"}[l.r.Intn(5)], g, l.r.Intn(7) - 1
}

// next is a decision that the plan of an active transaction asks for.
func (l *life) next() (string, int, int) {
	if len(l.m.active) == 0 {
		return l.any()
	}
	x := l.m.active[l.r.Intn(len(l.m.active))]
	step := x.p.Next(x.State)
	switch {
	case step.Kind == plan.Commit || step.Kind == plan.Abort:
		return "end", x.G, 0
	case step.Kind == plan.Undo:
		return "undone", x.G, step.Node
	case step.Kind == plan.Stuck:
		return "cancel", x.G, 0
	}
	return []string{"kept", "kept", "failed"}[l.r.Intn(3)], x.G, step.Node
}

// decide does another decision of both.
func (l *life) decide(kind string, g, node int) {
	next, want := l.m.decide(kind, g, node)
	var e api.Errno
	switch kind {
	case "kept":
		e = l.b.Kept(g, node)
	case "failed":
		e = l.b.Failed(g, node)
	case "undone":
		e = l.b.Undone(g, node)
	case "cancel":
		e = l.b.Cancel(g)
	case "end":
		e = l.b.End(g)
	}
	l.count(kind, next, e, want)
}

// call does something of both.
func (l *life) call() {
	switch n := l.r.Intn(40); {
	case n == 0:
		l.count("save", l.m, l.b.Save(), api.OK)
	case n == 1:
		is(l.t, "Room", l.k.Room(l.k.Used()+l.r.Intn(600)*[]int{1, 100}[l.r.Intn(2)]), api.OK)
	case n == 2:
		if b, e := book.Open(whole(l.k), 64); !l.k.Down() && (e != api.OK || tells(b) != l.m.tells()) {
			l.t.Fatal("opened in between", e, tells(b), "not", l.m.tells())
		}
	case n < 9:
		l.accept()
	case n < 18:
		l.decide(l.any())
	default:
		l.decide(l.next())
	}
}

// fail lets the power fail, also while the book is opened again, and goes on with what lasts.
func (l *life) fail() {
	var keeps []int
	for range len(l.k.Segs()) {
		keeps = append(keeps, l.r.Intn(200)-3)
	}
	x := l.k.Crash(keeps...)
	x.Fuse(l.r.Intn(3))
	seg := []int{16, 100, 1000, 9000}[l.r.Intn(4)]
	if _, e := book.Open(x, seg); e != api.OK {
		is(l.t, "Open", e, api.ErrDown)
		l.seen["down by Open"]++
		x = x.Crash()
	}
	x.Fuse(-1)
	is(l.t, "Room", x.Room(x.Used()+l.r.Intn(20000)), api.OK)
	for range 2 {
		b, e := book.Open(x, seg)
		is(l.t, "Open", e, api.OK)
		l.lasts(tells(b))
		l.b = b
	}
	l.k, l.under = x, l.m
}

// lasts fails the test, if what a book tells is not what may be there behind the loss of power; else that is the model from now on.
func (l *life) lasts(got string) {
	l.t.Helper()
	if got == l.m.tells() {
		return
	}
	if got != l.under.tells() {
		l.t.Fatal("there last", got, "not", l.m.tells(), "nor", l.under.tells())
	}
	l.seen["the call under way lasts"]++
	l.m = l.under
}

// specsOf is flexible transactions of several kinds, some of which are not well-formed.
func specsOf(t *testing.T) []flex.Spec {
	t.Helper()
	return []flex.Spec{usual(t), spec(t, "a b", "a c", "e"), spec(t, "d e a", "d c"), spec(t, "c"), spec(t, "a e", "d"), spec(t, "b c", "b d"),
		{}, spec(t, "b a"), spec(t, "a", "a b")}
}

// P28.1 to P28.7: anything is done, now and then without room, till the power fails at some change of the tape, again and again on one tape.
func TestLives(t *testing.T) {
	seen := map[string]int{}
	specs := specsOf(t)
	for seed := range 24 {
		r := rand.New(rand.NewSource(int64(seed)))
		m := begun(r.Intn(mostOver + 1))
		k := log(t, m.bytes())
		b := open(t, k)
		l := &life{t: t, r: r, k: k, b: b, m: m, under: m, specs: specs, seen: seen}
		for range 6 {
			l.k.Fuse(r.Intn(200))
			for range 150 {
				was := l.m
				l.call()
				if got := tells(l.b); got != l.m.tells() {
					t.Fatal(seed, got, "not", l.m.tells())
				}
				l.stands(was)
				if l.k.Down() {
					break
				}
			}
			l.fail()
		}
		seen[fmt.Sprint("over ", len(l.m.over) == mostOver)]++
	}
	for _, name := range []string{"accept 0", "accept 2", "accept 5", "accept 8", "accept 42", "accept 43", "save 0", "save 5", "save 8", "down by Open", "the call under way lasts", "over true",
		"kept 0", "kept 3", "kept 5", "kept 8", "kept 9", "failed 0", "failed 3", "failed 8", "failed 9", "undone 0", "undone 3", "undone 8", "undone 9",
		"cancel 0", "cancel 3", "cancel 8", "cancel 44", "end 0", "end 3", "end 8", "end 9"} {
		if seen[name] == 0 {
			t.Error("never seen:", name, seen)
		}
	}
}

// stands fails the test, if who was over ahead of a call is not over likewise, but the oldest one of as many as are remembered (P28.7).
func (l *life) stands(was model) {
	l.t.Helper()
	for i, x := range was.over {
		now, ok := l.b.Txn(x.G)
		if ok && (now.Outcome != x.Outcome || now.At != x.At) || !ok && (i > 0 || len(was.over) < mostOver) {
			l.t.Fatal("was over", x, now, ok)
		}
	}
}

// P28.5: of each call, with the power failing at each change and with each beginning of what was not synced, what lasts.
func TestLastsAtEachCut(t *testing.T) {
	calls := map[string]func(b *book.Book) api.Errno{
		"Accept": func(b *book.Book) api.Errno { _, _, e := b.Accept(usual(t)); return e },
		"Cancel": func(b *book.Book) api.Errno { return b.Cancel(1) },
		"Kept":   func(b *book.Book) api.Errno { return b.Kept(1, 1) },
		"Failed": func(b *book.Book) api.Errno { return b.Failed(1, 1) },
		"Undone": func(b *book.Book) api.Errno { return b.Undone(2, 1) },
		"End":    func(b *book.Book) api.Errno { return b.End(3) },
		"Save":   (*book.Book).Save,
	}
	for name, call := range calls {
		seen := map[string]int{}
		for _, seg := range []int{16, 20000} {
			for fuse := range 8 {
				for keep := 0; keep < 300; keep += 1 + keep/20 {
					b, k := half(t, seg)
					ahead := tells(b)
					k.Fuse(fuse)
					e := call(b)
					now := tells(b)
					got := tells(open(t, cut(k, keep)))
					if e != api.OK {
						is(t, name, e, api.ErrDown)
						twin, _ := half(t, seg)
						is(t, name, call(twin), api.OK)
						if now != ahead || got != ahead && got != tells(twin) {
							t.Fatal(name, fuse, keep, got)
						}
						seen[fmt.Sprint("down ", got != ahead)]++
						continue
					}
					if got != now {
						t.Fatal(name, fuse, keep, got, "not", now)
					}
					seen["OK"]++
				}
			}
		}
		if seen["OK"] == 0 || seen["down false"] == 0 || (seen["down true"] == 0) != (name == "Save") {
			t.Error(name, seen)
		}
	}
}

// half is a book with transactions that have come some way, and its tape.
func half(t *testing.T, seg int) (*book.Book, *tape.Tape) {
	t.Helper()
	k := disk(t, 20000)
	b, e := book.Open(k, seg)
	is(t, "Open", e, api.OK)
	for range 3 {
		accept(t, b, usual(t))
	}
	is(t, "Kept", b.Kept(2, 1), api.OK)
	is(t, "Failed", b.Failed(2, 2), api.OK)
	is(t, "Failed", b.Failed(2, 3), api.OK)
	is(t, "Failed", b.Failed(3, 1), api.OK)
	return b, k
}

// cut is the tape behind a loss of power that keeps so much of each tail.
func cut(k *tape.Tape, keep int) *tape.Tape {
	return k.Crash(slices.Repeat([]int{keep}, api.MaxSegs)...)
}
