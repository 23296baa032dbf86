package world_test

import (
	"fmt"
	"math/rand"
	"slices"
	"strings"
	"testing"

	"byroad/api"
	"byroad/book"
	"byroad/flex"
	"byroad/mess"
	"byroad/order"
	"byroad/plan"
	"byroad/world"
)

// global is a global transaction, as its client knows it.
type global struct {
	g, id     int // id: by what its rows are called
	p         plan.Plan
	counted   bool // rows of its own tell of its commits and undos
	cancelled bool
	end       book.Txn // once it is known to be over
}

// local is a client's local transaction, which may change a row of its own.
type local struct {
	node, id int
	did      bool      // the row is changed
	told     api.Errno // of its commit
	ended    bool
}

// life is a world to which anything is done that may befall one.
type life struct {
	*rig
	r       *rand.Rand
	globals []*global
	under   *global // what was submitted when the power failed
	locals  []*local
	packets []mess.Msg // some that were under way once
	seen    map[string]int
}

// some is one of those.
func some[T any](r *rand.Rand, l ...T) T { return l[r.Intn(len(l))] }

// also is operations beside those on the rows of a subtransaction's own, on rows for which all come.
func (l *life) also(total bool) string {
	key := some(l.r, "x", "y")
	text := some(l.r, "", "", "get "+key, "put "+key+" 2", "back "+key+" -1", "del "+key)
	if !total && l.r.Intn(2) == 0 {
		text = some(l.r, "min "+key+" -2 0", "min "+key+" 1 2", "add "+key+" 3")
	}
	if text != "" {
		text = "; " + text
	}
	return text
}

// text is some flexible transaction. Each commit of a subtransaction of it is told by a row of its own, and each undo by another one.
func (l *life) text(id int) string {
	var b strings.Builder
	n := 1 + l.r.Intn(5)
	for i := range n {
		kind := some(l.r, "pivot", "comp", "comp", "retry", "both")
		sure := kind == "retry" || kind == "both"
		fmt.Fprintf(&b, "sub s%d %d %s back c%d_%d 1%s", i, l.r.Intn(api.Sites), kind, id, i, l.also(sure))
		if kind == "comp" || kind == "both" {
			fmt.Fprintf(&b, " | back u%d_%d 1%s", id, i, l.also(true))
		}
		b.WriteString("\n")
	}
	for range 1 + l.r.Intn(4) {
		b.WriteString("path")
		for _, i := range l.r.Perm(n)[:1+l.r.Intn(n)] {
			fmt.Fprintf(&b, " s%d", i)
		}
		b.WriteString("\n")
	}
	return b.String()
}

// wellFormed is some flexible transaction that is well-formed, most often one with several paths.
func (l *life) wellFormed(id int) (string, plan.Plan) {
	for try := 0; ; try++ {
		text := l.text(id)
		f, at, e := flex.Parse(text)
		if e != api.OK {
			l.t.Fatal(text, at, e)
		}
		if p, _, e := plan.Of(f); e == api.OK && (len(p.Paths) > 1 || try > 30) {
			return text, p
		}
	}
}

// submits submits something. What is not well-formed changes nothing (P0.7).
func (l *life) submits() {
	if !l.Up(0) {
		return
	}
	if l.r.Intn(4) == 0 {
		text := l.text(len(l.globals))
		f, _, _ := flex.Parse(text)
		_, place, want := plan.Of(f)
		if want == api.OK {
			return
		}
		l.stays(func() {
			if g, at, e := l.Submit(text); g != 0 || at != place || e != want {
				l.t.Fatal("Submit", g, at, e, "not", place, want)
			}
		})
		l.seen[fmt.Sprint("refused ", want)]++
		return
	}
	x := &global{g: len(l.globals) + 1, id: len(l.globals), counted: true}
	var text string
	text, x.p = l.wellFormed(x.id)
	g, at, e := l.Submit(text)
	l.seen[fmt.Sprint("submit ", e)]++
	switch {
	case e == api.OK && g == x.g && at == 0:
		l.globals = append(l.globals, x)
	case e == api.ErrDown && g == 0 && at == 0:
		l.under = x
	case e != api.ErrFull:
		l.t.Fatal("Submit", g, at, e)
	}
}

// starts starts a node. What was submitted when the manager's power failed may be there.
func (l *life) starts(node int) {
	if l.Up(node) {
		return
	}
	if l.r.Intn(2) == 0 {
		l.Crash(node, l.keeps()...) // by its power, else it is refused
	}
	l.seen[fmt.Sprint("start ", l.Start(node))]++
	l.finds()
}

// keeps is how much lasts of the tails of a tape's segments.
func (l *life) keeps() []int {
	var keeps []int
	for range api.MaxSegs {
		keeps = append(keeps, l.r.Intn(300)-50)
	}
	return keeps
}

// finds looks for what was submitted when the power failed.
func (l *life) finds() {
	if !l.Up(0) {
		return
	}
	if l.under != nil && l.Coord().Next() > l.under.g {
		l.globals = append(l.globals, l.under)
		l.seen["under way"]++
	}
	l.under = nil
	if l.Coord().Next() != len(l.globals)+1 {
		l.t.Fatal("Next", l.Coord().Next(), len(l.globals))
	}
}

// cancels cancels somebody.
func (l *life) cancels() {
	if len(l.globals) == 0 {
		return
	}
	x := some(l.r, l.globals...)
	if a, _ := l.List(); len(a) > 0 && l.r.Intn(4) > 0 {
		x = l.globals[some(l.r, a...)-1]
	}
	e := l.Cancel(x.g)
	l.seen[fmt.Sprint("cancel ", e)]++
	x.cancelled = x.cancelled || e == api.OK
}

// client does something of a site's client.
func (l *life) client() {
	open := slices.DeleteFunc(slices.Clone(l.locals), func(x *local) bool { return x.ended })
	if node := 1 + l.r.Intn(api.Sites); len(open) < 3 {
		if id, e := l.Begin(node); e == api.OK {
			l.locals = append(l.locals, &local{node: node, id: id, told: api.ErrNone})
		}
		return
	}
	x := some(l.r, open...)
	switch n := l.r.Intn(10); {
	case n < 3:
		_, e := l.Do(x.node, x.id, op(some(l.r, "get x", "put x 1", "add y 1", "del y")))
		l.seen[fmt.Sprint("do ", e)]++
	case n < 5 && !x.did:
		_, e := l.Do(x.node, x.id, op(fmt.Sprintf("back l%d 1", slices.Index(l.locals, x))))
		x.did = e == api.OK
	case n == 5:
		l.Abort(x.node, x.id)
		x.ended = true
	default:
		e := l.Commit(x.node, x.id)
		x.ended = true
		if x.did {
			x.told = e
			l.seen[fmt.Sprint("commit ", e)]++
		}
	}
}

// packet does something with a packet.
func (l *life) packet() {
	n := l.Packets()
	if n == 0 {
		return
	}
	i := l.r.Intn(n)
	if m, ok := l.Packet(i); ok && l.r.Intn(4) == 0 {
		l.packets = append(l.packets, m)
	}
	switch k := l.r.Intn(24); {
	case k == 0:
		l.Drop(i)
	case k == 1:
		l.Twice(i)
	case k == 2:
		l.Move(i, l.r.Intn(n))
	case k == 3:
		l.Hold(i, l.r.Intn(30))
	case k == 4:
		if _, ok := l.Packet(i); ok { // else it was spoilt already
			l.Spoil(i, l.r.Intn(120))
		}
	case k == 5 && len(l.packets) > 0:
		l.Inject(some(l.r, l.packets...))
	case k < 10:
		l.Deliver(i)
	default:
		l.Deliver(0)
	}
}

// harm does some harm, or takes some away.
func (l *life) harm() {
	node := l.r.Intn(api.Sites + 1)
	switch l.r.Intn(14) {
	case 0:
		l.Crash(node, l.keeps()...)
		l.gone(node)
	case 1, 2:
		l.Fuse(node, l.r.Intn(12))
	case 3:
		l.Part(node)
	case 4, 5:
		l.Heal(node)
	case 6:
		l.Room(node, full-l.Free(node)+l.r.Intn(100))
	case 7, 8:
		l.Room(node, full)
	case 9:
		l.Save(node)
	default:
		if open := l.Site(node).Opened(); len(open) > 0 {
			l.Abort(node, some(l.r, open...))
		}
	}
}

// gone ends the local transactions of a node that is down.
func (l *life) gone(node int) {
	for _, x := range l.locals {
		x.ended = x.ended || x.node == node
	}
}

// step does something, and holds what there is against the great promises.
func (l *life) step() {
	switch n := l.r.Intn(40); {
	case n < 2 && len(l.globals) < 14:
		l.submits()
	case n == 2:
		l.cancels()
	case n < 8:
		l.harm()
	case n < 12:
		l.client()
	case n < 18:
		l.Tick(1 + l.r.Intn(2))
	case n < 22:
		l.starts(l.r.Intn(api.Sites + 1))
	default:
		l.packet()
	}
	for node := 1; node <= api.Sites; node++ {
		if !l.Up(node) {
			l.gone(node)
		}
	}
	l.holds()
}

// rows is what the nodes that are up hold, by node and key.
func (l *life) rows() [api.Sites + 1]map[string]int64 {
	var all [api.Sites + 1]map[string]int64
	for node := range all {
		if l.Up(node) {
			all[node] = map[string]int64{}
		}
		for _, row := range l.Site(node).Rows() {
			all[node][row.Key] = row.N
		}
	}
	return all
}

// holds fails the test, if what must be so at every point is not.
func (l *life) holds() {
	l.t.Helper()
	rows := l.rows()
	for _, x := range l.globals {
		l.known(x)
		for i, s := range x.p.Subs {
			if held := rows[s.Site+1]; held != nil && x.counted {
				l.onePath(x, i, s, held[fmt.Sprintf("c%d_%d", x.id, i)], held[fmt.Sprintf("u%d_%d", x.id, i)])
			}
		}
	}
	for i, x := range l.locals {
		least, most := int64(0), int64(0)
		switch x.told {
		case api.OK:
			least = 1
			fallthrough
		case api.ErrDown:
			most = 1
		}
		held := rows[x.node]
		if n := held[fmt.Sprint("l", i)]; held != nil && (n < least || n > most) {
			l.t.Fatal("P0.4: what a site's client committed counts, once:", *x, n)
		}
	}
	for node := 1; node <= api.Sites; node++ {
		for key := range rows[node] {
			var g, n int
			if k, _ := fmt.Sscanf(strings.TrimLeft(key, "~kxu"), "%d.%d", &g, &n); k == 2 && g < l.Agent(node).Low() {
				l.t.Fatal("P0.8:", node, key, l.Agent(node).Low())
			}
		}
	}
	k := l.Tickets()
	if _, ok := order.Certify(k...); !ok || !order.Rises(k...) {
		l.t.Fatal("P0.5:", k)
	}
}

// onePath is P0.1, of one subtransaction, which is committed and taken back so often.
func (l *life) onePath(x *global, i int, s flex.Sub, kept, undone int64) {
	l.t.Helper()
	stands := kept - undone
	if stands < 0 || stands > 1 || !s.Undoable() && (kept > 1 || undone > 0) {
		l.t.Fatal("P0.1:", x.g, i, kept, undone)
	}
	if x.end.G == 0 {
		return
	}
	want := int64(0)
	if x.end.Outcome == book.Committed && slices.Contains(x.p.Path(x.end.At), i) {
		want = 1
	}
	if stands != want {
		l.t.Fatal("P0.1, over:", x.g, i, kept, undone, x.end)
	}
}

// known is P0.4 of a global transaction, and P0.3 once it is over.
func (l *life) known(x *global) {
	l.t.Helper()
	s, e := l.Status(x.g)
	switch {
	case e == api.ErrDown:
		return
	case e != api.OK || s.Outcome == book.Committed && x.cancelled || x.end.G != 0 && fmt.Sprint(s) != fmt.Sprint(x.end):
		l.t.Fatal("P0.4:", x.g, x.cancelled, s, e, x.end)
	case s.Outcome != book.Running && x.end.G == 0:
		x.end = s
		l.seen[fmt.Sprint("outcome ", s.Outcome)]++
		l.best(x)
	}
}

// best is P0.3.
func (l *life) best(x *global) {
	l.t.Helper()
	for _, leaf := range x.p.Leaves() {
		if x.end.Outcome != book.Committed || !x.p.Prefers(leaf, x.end.At) {
			continue
		}
		beyond := x.p.Above(leaf)
		beyond = beyond[:slices.Index(beyond, x.p.Meet(leaf, x.end.At))]
		if !slices.ContainsFunc(beyond, func(n int) bool {
			s, _ := x.p.Sub(n)
			return !s.Sure() && slices.ContainsFunc(l.Fails(), func(f world.Fail) bool { return f.G == x.g && f.Node == n && f.Code != 0 })
		}) {
			l.t.Fatal("P0.3:", x.g, x.end, leaf, l.Fails())
		}
		l.seen["another path"]++
	}
}

// settles is P0.6.
func (l *life) settles() {
	l.t.Helper()
	for node := range api.Sites + 1 {
		l.Room(node, full)
	}
	for range 2 { // a fuse may be in the way once
		l.starts(0)
	}
	bound := l.Bound()
	if bound >= 4096 {
		l.seen["no bound"]++
		return
	}
	n, e := l.fair(bound)
	if a, _ := l.List(); e != api.OK || len(a) > 0 || n > bound {
		l.t.Fatal("P0.6:", e, a, n, bound, tells(l.World))
	}
	for node := 1; node <= api.Sites; node++ {
		if w := l.Agent(node).Works(); !l.Up(node) || len(w) > 0 {
			l.t.Fatal("P0.6:", node, w)
		}
	}
	l.holds()
	l.seen["settled"]++
}

// fair lets a fair time go by.
func (l *life) fair(rounds int) (int, api.Errno) {
	n, e := l.Settle(rounds)
	l.finds()
	for node := range api.Sites + 1 {
		l.gone(node) // clients' local transactions were aborted
	}
	return n, e
}

// born is a world's life from a seed. In a tight one all logs are in short segments, and of these there may be so many that there is no room.
func born(t *testing.T, seed int, tight bool, seen map[string]int) *life {
	t.Helper()
	r := rand.New(rand.NewSource(int64(seed)))
	c := world.Config{Seg: some(r, 1000, 3000, 20000), Every: int64(1 + r.Intn(5)), Limit: int64(1 + r.Intn(8)), Most: 1 + r.Intn(60), Room: full}
	if tight {
		c.Seg = some(r, 16, 50, 150)
	}
	w, e := world.New(c)
	is(t, "New", e, api.OK)
	return &life{rig: &rig{t, w}, r: r, seen: seen}
}

// P0.1, P0.3 to P0.7: whatever befalls a world.
func TestLives(t *testing.T) {
	seen := map[string]int{}
	for seed := range 60 {
		l := born(t, seed, false, seen)
		for range 6 {
			for range l.r.Intn(300) {
				l.step()
			}
			l.settles()
		}
	}
	for _, name := range []string{"submit 0", "submit 5", "submit 8", "refused 42", "refused 43", "cancel 0", "cancel 3", "cancel 44", "cancel 5", "cancel 8",
		"do 0", "do 20", "commit 0", "commit 3", "commit 8", "start 0", "outcome 1", "outcome 2", "another path", "under way", "settled"} {
		if seen[name] == 0 {
			t.Error("never seen:", name, seen)
		}
	}
}

// P0.1, P0.3 to P0.5: where there is not always room.
func TestTightLives(t *testing.T) {
	seen := map[string]int{}
	for seed := range 40 {
		l := born(t, seed, true, seen)
		for range 4 {
			for range l.r.Intn(300) {
				l.step()
			}
			l.fair(50)
			l.holds()
		}
	}
	for _, name := range []string{"submit 0", "submit 5", "outcome 1", "outcome 2", "another path", "commit 0", "commit 5"} {
		if seen[name] == 0 {
			t.Error("never seen:", name, seen)
		}
	}
}

// P30.7: two worlds of one config, to which the same is done, stand the same.
func TestTwins(t *testing.T) {
	for seed := range 12 {
		var a, b strings.Builder
		for _, log := range []*strings.Builder{&a, &b} {
			l := born(t, seed, seed%3 == 0, map[string]int{})
			for range 300 {
				l.step()
				log.WriteString(tells(l.World))
			}
			n, _ := l.fair(50)
			log.WriteString(fmt.Sprint(n, tells(l.World)))
		}
		if a.String() != b.String() {
			t.Fatal(seed, "twins are not the same")
		}
	}
}
