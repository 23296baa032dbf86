package agent_test

import (
	"fmt"
	"slices"
	"strings"
	"testing"

	"byroad/agent"
	"byroad/api"
	"byroad/mess"
	"byroad/ops"
	"byroad/site"
	"byroad/tape"
)

// maxTime is the greatest time.
const maxTime = 1 << 40

// rig is a site of some kind, on a tape, and its agent.
type rig struct {
	t    *testing.T
	kind int
	k    *tape.Tape
	s    *site.Site
	a    *agent.Agent
}

// number is that of each rig's site.
const number = 2

// fresh is a rig over an empty tape.
func fresh(t *testing.T, kind int, limit int64) *rig {
	t.Helper()
	k, e := tape.New(100000)
	is(t, "the tape's New", e, api.OK)
	r := &rig{t: t, kind: kind, k: k}
	r.open(limit)
	return r
}

// open opens the site, and begins the agent anew.
func (r *rig) open(limit int64) {
	r.t.Helper()
	var e api.Errno
	r.s, e = site.Open(r.kind, r.k, 4000)
	is(r.t, "Open", e, api.OK)
	r.anew(limit)
}

// anew begins the agent anew over the same site.
func (r *rig) anew(limit int64) {
	r.t.Helper()
	var e api.Errno
	r.a, e = agent.New(number, r.s, limit)
	is(r.t, "New", e, api.OK)
}

// crash lets the power fail, and opens what lasts.
func (r *rig) crash(keeps ...int) {
	r.t.Helper()
	r.k = r.k.Crash(keeps...)
	r.open(3)
}

// each runs a test for each kind of site.
func each(t *testing.T, test func(t *testing.T, kind int)) {
	for kind, name := range []string{"locks", "versions", "looks"} {
		t.Run(name, func(t *testing.T) { test(t, kind) })
	}
}

// is fails the test, if a call does not answer just that.
func is(t *testing.T, what string, got, want api.Errno) {
	t.Helper()
	if got != want {
		t.Fatal(what, "answers", got, "not", want)
	}
}

// list is the operations that a text says, also on the system's keys.
func list(t *testing.T, s string) []api.Op {
	t.Helper()
	l, at, e := ops.Parse(strings.ReplaceAll(s, "~", "_"))
	if e != api.OK {
		t.Fatal(s, at, e)
	}
	for i, op := range l {
		if key, of := strings.CutPrefix(op.Key, "_"); of {
			l[i].Key = "~" + key
		}
	}
	return l
}

// words is what kinds of messages are called here.
func words() map[int]string {
	return map[int]string{
		mess.Run: "run", mess.Keep: "keep", mess.Drop: "drop", mess.Undo: "undo", mess.Held: "held",
		mess.Failed: "failed", mess.Kept: "kept", mess.Lost: "lost", mess.Dropped: "dropped", mess.Undone: "undone",
	}
}

// ask is the request that a text says: its kind, G, node, try, low and operations, as in "run 1.2/1@1 put x 5".
func ask(t *testing.T, s string) mess.Msg {
	t.Helper()
	word, rest, _ := strings.Cut(s, " ")
	about, text, _ := strings.Cut(rest, " ")
	m := mess.Msg{To: number, Ops: list(t, text)}
	for kind, w := range words() {
		if w == word {
			m.Kind = kind
		}
	}
	if _, err := fmt.Sscanf(about, "%d.%d/%d@%d", &m.G, &m.Node, &m.Try, &m.Low); err != nil || !mess.May(m) {
		t.Fatal(s, err, m)
	}
	return m
}

// says is what messages say, each of which must be a reply of the rig's that may be.
func (r *rig) says(l []mess.Msg) string {
	r.t.Helper()
	var all []string
	for _, m := range l {
		if !mess.May(m) || m.From != number || m.To != 0 {
			r.t.Fatal("a message that may not be:", m)
		}
		s := fmt.Sprintf("%s %d.%d", words()[m.Kind], m.G, m.Node)
		switch m.Kind {
		case mess.Held:
			s += fmt.Sprintf("/%d #%d %v", m.Try, m.Ticket, m.Told)
		case mess.Failed, mess.Lost:
			s += fmt.Sprintf("/%d !%d", m.Try, m.Code)
		}
		all = append(all, s)
	}
	return strings.Join(all, ", ")
}

// on fails the test, if a request is not answered just so.
func (r *rig) on(now int64, request, want string) {
	r.t.Helper()
	if got := r.says(r.a.Handle(ask(r.t, request), now)); got != want {
		r.t.Fatalf("at %d %s: %q, not %q", now, request, got, want)
	}
}

// step fails the test, if a Step does not tell just that.
func (r *rig) step(now int64, want string) {
	r.t.Helper()
	if got := r.says(r.a.Step(now)); got != want {
		r.t.Fatalf("Step at %d: %q, not %q", now, got, want)
	}
}

// works fails the test, if the works are not just these, as in "run 1.2/1 =3 2 held, undo 1.3/0 =0 0": of each its local transaction, and how many operations are done.
func (r *rig) works(want string) {
	r.t.Helper()
	if got := told(r.a.Works()); got != want {
		r.t.Fatalf("works %q, not %q", got, want)
	}
}

// told is what works are, as text.
func told(l []agent.Work) string {
	var all []string
	for _, w := range l {
		s := "run"
		if w.Undo {
			s = "undo"
		}
		s += fmt.Sprintf(" %d.%d/%d =%d %d", w.G, w.Node, w.Try, w.Id, w.Done)
		if w.Held {
			s += " held"
		}
		all = append(all, s)
	}
	return strings.Join(all, ", ")
}

// rows fails the test, if the committed rows are not just these, as in "x 5, ~t 1".
func (r *rig) rows(want string) {
	r.t.Helper()
	if got := rowText(r.s.Rows()); got != want {
		r.t.Fatalf("rows %q, not %q", got, want)
	}
}

// rowText is rows as text.
func rowText(l []api.Row) string {
	var all []string
	for _, row := range l {
		all = append(all, fmt.Sprint(row.Key, " ", row.N))
	}
	return strings.Join(all, ", ")
}

// opened fails the test, if not just these local transactions are open.
func (r *rig) opened(want ...int) {
	r.t.Helper()
	if got := r.s.Opened(); !slices.Equal(got, want) {
		r.t.Fatal("opened", got, "not", want)
	}
}

// client begins a local transaction of somebody else's, and does operations in it.
func (r *rig) client(text string) int {
	r.t.Helper()
	id, e := r.s.Begin()
	is(r.t, "Begin", e, api.OK)
	for _, op := range list(r.t, text) {
		_, e := r.s.Do(id, op)
		is(r.t, text, e, api.OK)
	}
	return id
}

// sets lets keys hold numbers, also the system's, in a transaction of their own.
func (r *rig) sets(l ...api.Row) {
	r.t.Helper()
	var all []api.Op
	for _, row := range l {
		all = append(all, api.Op{Kind: api.Put, Key: row.Key, N: row.N})
	}
	_, _, e := r.s.Alone(all...)
	is(r.t, "Alone", e, api.OK)
}

// fill opens as many local transactions as there may be, and is them.
func (r *rig) fill() []int {
	r.t.Helper()
	var l []int
	for len(r.s.Opened()) < api.MaxOpen {
		l = append(l, r.client(""))
	}
	return l
}

// ends aborts local transactions.
func (r *rig) ends(l ...int) {
	r.t.Helper()
	for _, id := range l {
		is(r.t, "Abort", r.s.Abort(id), api.OK)
	}
}
