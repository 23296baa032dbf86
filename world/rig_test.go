package world_test

import (
	"fmt"
	"slices"
	"strings"
	"testing"

	"byroad/api"
	"byroad/book"
	"byroad/mess"
	"byroad/ops"
	"byroad/world"
)

const (
	maxTime = 1 << 40
	full    = api.MaxDisk
)

// subs are subtransactions of all types: a and e can be taken back, c and d are sure, d can be taken back too, b is a pivot.
const subs = "sub a 0 comp add x 5 | back x -5\nsub b 1 pivot min z -3 0\nsub c 2 retry put w 1\nsub d 2 both put v 1 | del v\nsub e 0 comp add u 1 | back u -1\npath "

// usual is the flexible transaction of the document's examples of the whole: the nodes 1 to 3 are a, b and c.
const usual = subs + "a b\npath a c"

// rig is a world to be played with.
type rig struct {
	t *testing.T
	*world.World
}

// usualConfig is a config with room for all.
func usualConfig() world.Config {
	return world.Config{Seg: 4000, Every: 3, Limit: 5, Most: 100, Room: full}
}

// fresh is a new world, to which texts are submitted.
func fresh(t *testing.T, texts ...string) *rig {
	t.Helper()
	w, e := world.New(usualConfig())
	if e != api.OK || w == nil {
		t.Fatal("New", e)
	}
	r := &rig{t, w}
	for i, s := range texts {
		r.submit(s, i+1)
	}
	return r
}

// is fails the test, if a call does not answer just that.
func is(t *testing.T, what string, got, want api.Errno) {
	t.Helper()
	if got != want {
		t.Fatal(what, "answers", got, "not", want)
	}
}

// does fails the test, if one of calls was not done.
func (r *rig) does(l ...api.Errno) {
	r.t.Helper()
	for i, e := range l {
		if e != api.OK {
			r.t.Fatal("call", i, "answers", e)
		}
	}
}

// submit submits a text that must be accepted.
func (r *rig) submit(text string, want int) {
	r.t.Helper()
	if g, at, e := r.Submit(text); g != want || at != 0 || e != api.OK {
		r.t.Fatal("Submit", g, at, e, "not", want)
	}
}

// op is the operation that a text says.
func op(text string) api.Op {
	l, _, _ := ops.Parse(text)
	return l[0]
}

// begin begins a local transaction of a client's, and does operations in it.
func (r *rig) begin(node int, texts ...string) int {
	r.t.Helper()
	id, e := r.Begin(node)
	is(r.t, "Begin", e, api.OK)
	for _, s := range texts {
		_, e := r.Do(node, id, op(s))
		is(r.t, s, e, api.OK)
	}
	return id
}

// sets does operations in a local transaction of a client's, and commits that.
func (r *rig) sets(node int, texts ...string) {
	r.t.Helper()
	r.does(r.Commit(node, r.begin(node, texts...)))
}

// words is what kinds of messages are called here.
func words() map[int]string {
	return map[int]string{
		mess.Run: "run", mess.Keep: "keep", mess.Drop: "drop", mess.Undo: "undo", mess.Held: "held",
		mess.Failed: "failed", mess.Kept: "kept", mess.Lost: "lost", mess.Dropped: "dropped", mess.Undone: "undone",
	}
}

// way is what is under way, as in "run 1.1>1, kept 2.1>0": of each packet its kind, G, node, and to whom; "?" is none.
func (r *rig) way() string {
	var l []string
	for i := range r.Packets() {
		m, ok := r.Packet(i)
		s := fmt.Sprintf("%s %d.%d>%d", words()[m.Kind], m.G, m.Node, m.To)
		if !ok {
			s = "?"
		}
		l = append(l, s)
	}
	return strings.Join(l, ", ")
}

// under fails the test, if not just that is under way.
func (r *rig) under(want string) {
	r.t.Helper()
	if got := r.way(); got != want {
		r.t.Fatalf("under way: %q, not %q", got, want)
	}
}

// come delivers packet 0 again and again; behind each time just that must be under way.
func (r *rig) come(wants ...string) {
	r.t.Helper()
	for _, want := range wants {
		r.does(r.Deliver(0))
		r.under(want)
	}
}

// settle lets a fair time go by, at whose end all must be over, and no agent at anything.
func (r *rig) settle() {
	r.t.Helper()
	bound := r.Bound()
	n, e := r.Settle(bound)
	is(r.t, "Settle", e, api.OK)
	if l, e := r.List(); len(l) > 0 || e != api.OK || n > bound {
		r.t.Fatal("active still", l, e, n, bound)
	}
	for node := 1; node <= api.Sites; node++ {
		if l := r.Agent(node).Works(); len(l) > 0 {
			r.t.Fatal("at work still", node, l)
		}
	}
}

// stands fails the test, if a global transaction has not come just so far.
func (r *rig) stands(g, outcome, at int, failed ...int) {
	r.t.Helper()
	x, e := r.Status(g)
	if e != api.OK || x.G != g || x.Outcome != outcome || x.At != at || !slices.Equal(x.Failed, failed) {
		r.t.Fatal("Status", g, x, e, "not", outcome, at, failed)
	}
}

// rows fails the test, if under anybody's keys the nodes do not hold just that, as in "x 5|z 1|".
func (r *rig) rows(want string) {
	r.t.Helper()
	var nodes []string
	for node := 1; node <= api.Sites; node++ {
		var l []string
		for _, row := range r.Site(node).Rows() {
			if row.Key[0] != '~' {
				l = append(l, fmt.Sprint(row.Key, " ", row.N))
			}
		}
		nodes = append(nodes, strings.Join(l, ", "))
	}
	if got := strings.Join(nodes, "|"); got != want {
		r.t.Fatalf("rows %q, not %q", got, want)
	}
}

// fails fails the test, if agents did not tell just these tries as failed or lost, as in "1.2!24".
func (r *rig) fails(want string) {
	r.t.Helper()
	var l []string
	for _, f := range r.Fails() {
		l = append(l, fmt.Sprintf("%d.%d!%d", f.G, f.Node, f.Code))
	}
	if got := strings.Join(l, " "); got != want {
		r.t.Fatalf("fails %q, not %q", got, want)
	}
}

// tickets fails the test, if there are not just these tickets: of each G, site and number.
func (r *rig) tickets(want string) {
	r.t.Helper()
	if got := fmt.Sprint(r.Tickets()); got != want {
		r.t.Fatal("tickets", got, "not", want)
	}
}

// tells is all that a world tells, but its packets' bytes.
func tells(w *world.World) string {
	l, e := w.List()
	s := fmt.Sprintln(w.Now(), l, e, w.Packets(), w.Fails(), w.Tickets(), w.Bound(), w.Coord().Users(), w.Coord().Next(), w.Coord().Low())
	for g := range w.Coord().Next() {
		x, e := w.Status(g)
		q, asks := w.Coord().Request(g)
		s += fmt.Sprintln(g, x, e, q, asks)
	}
	for i := range w.Packets() {
		m, ok := w.Packet(i)
		s += fmt.Sprintln(m, ok)
	}
	for node := -1; node <= api.Sites+1; node++ {
		a, k := w.Agent(node), w.Site(node)
		s += fmt.Sprintln(node, w.Up(node), w.Free(node), a.Works(), a.Low(), k.Kind(), k.Rows(), k.Opened(), k.Serial(), k.Next())
	}
	return s
}

// stays fails the test, if a call changes anything that is told.
func (r *rig) stays(call func()) {
	r.t.Helper()
	was := tells(r.World)
	call()
	if got := tells(r.World); got != was {
		r.t.Error("changed", got, "not", was)
	}
}

// The outcomes.
const (
	running   = book.Running
	committed = book.Committed
	aborted   = book.Aborted
)
