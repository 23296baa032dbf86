package agent_test

import (
	"bytes"
	"fmt"
	"math/rand"
	"slices"
	"strings"
	"testing"

	"byroad/agent"
	"byroad/api"
	"byroad/cells"
	"byroad/mess"
	"byroad/site"
	"byroad/tape"
)

// life is an agent and its site, beside them a model of the agent over a site of its own to which the same is done, and what was told.
type life struct {
	*rig
	r     *rand.Rand
	twin  *tape.Tape
	model *model
	limit int64
	now   int64
	base  int            // requests are of these global transactions and a few more
	facts map[string]int // of each G and node, and letter: what was told for good
	over  map[string]string
	seen  map[string]int
}

// live is a life that begins.
func live(t *testing.T, kind, seed int, seen map[string]int) *life {
	r := rand.New(rand.NewSource(int64(seed)))
	l := &life{rig: fresh(t, kind, 3), r: r, limit: 3, base: 1, facts: map[string]int{}, over: map[string]string{}, seen: seen}
	l.twin = l.k.Crash()
	l.begin()
	return l
}

// begin opens both sites, and begins both agents anew.
func (l *life) begin() {
	l.t.Helper()
	l.limit = 1 + int64(l.r.Intn(6))
	l.open(l.limit)
	s, e := site.Open(l.kind, l.twin, 4000)
	is(l.t, "Open", e, api.OK)
	l.model = anew(s, l.limit)
}

// both does the same with both sites and tapes, and fails the test, if it answers not the same.
func (l *life) both(what string, do func(s *site.Site, k *tape.Tape) string) string {
	l.t.Helper()
	a, b := do(l.s, l.k), do(l.model.s, l.twin)
	if a != b {
		l.t.Fatal(what, a, "not", b)
	}
	return a
}

// request is some request. Of what is under way more are asked than of other things, and not much is given up.
func (l *life) request() mess.Msg {
	m := mess.Msg{To: number}
	switch n := l.r.Intn(14); {
	case n < 6:
		m.Kind = mess.Run
	case n < 10:
		m.Kind = mess.Keep
	case n < 13:
		m.Kind = mess.Undo
	default:
		m.Kind = mess.Drop
	}
	m.Low = 1 + l.r.Intn(l.base)
	m.About = mess.About{G: max(1, l.base-1+l.r.Intn(4)), Node: l.r.Intn(2), Try: l.r.Intn(2)}
	if works := l.a.Works(); len(works) > 0 && l.r.Intn(2) == 0 {
		m.About = works[l.r.Intn(len(works))].About
	}
	if m.Kind == mess.Drop {
		m.Try = 0
	}
	name := fmt.Sprintf("%d.%d", m.G, m.Node)
	switch m.Kind {
	case mess.Run:
		m.Ops = append(l.some(), api.Op{Kind: api.Add, Key: "a" + name, N: 1})
	case mess.Undo:
		m.Ops = append(l.some(), api.Op{Kind: api.Back, Key: "b" + name, N: 1})
	}
	l.r.Shuffle(len(m.Ops), func(i, j int) { m.Ops[i], m.Ops[j] = m.Ops[j], m.Ops[i] })
	return m
}

// some is a few operations on keys that many want.
func (l *life) some() []api.Op {
	var all []api.Op
	for range l.r.Intn(4) {
		all = append(all, l.op())
	}
	return all
}

// op is some operation on a key that many want.
func (l *life) op() api.Op {
	op := api.Op{Kind: 1 + l.r.Intn(6), Key: []string{"p", "q", "s"}[l.r.Intn(3)]}
	switch op.Kind {
	case api.Put, api.Add, api.Back:
		op.N = int64(l.r.Intn(9) - 4)
	case api.Min:
		op.N = int64(l.r.Intn(9) - 3)
	}
	return op
}

// handle lets a request come to both agents.
func (l *life) handle() {
	l.t.Helper()
	m := l.request()
	before := l.s.Rows()
	got, want := l.a.Handle(m, l.now), l.model.handle(m, l.now)
	what := fmt.Sprint("at ", l.now, " ", m)
	l.same(what, got, want)
	l.answered(what, m, got)
	l.changed(what, before, m, got)
}

// step lets both agents go on.
func (l *life) step() {
	l.t.Helper()
	before := l.s.Rows()
	got, want := l.a.Step(l.now), l.model.step(l.now)
	what := fmt.Sprint("Step at ", l.now)
	l.same(what, got, want)
	l.changed(what, before, mess.Msg{}, got)
}

// same fails the test, if the agent does not tell just what the model does.
func (l *life) same(what string, got, want []mess.Msg) {
	l.t.Helper()
	if !slices.EqualFunc(got, want, mess.Same) {
		l.t.Fatal(what, l.says(got), "not", l.says(want))
	}
	for _, m := range got {
		l.seen[fmt.Sprint(words()[m.Kind], " ", m.Code)]++
	}
}

// answered holds an answer against what was told for good: P22.6.
func (l *life) answered(what string, m mess.Msg, got []mess.Msg) {
	l.t.Helper()
	if m.G < l.a.Low() {
		if len(got) > 0 {
			l.t.Fatal(what, "is over, and answered", got)
		}
		return
	}
	letters := "kx"
	if m.Kind == mess.Undo {
		letters = "u"
	}
	for _, letter := range strings.Split(letters, "") {
		if kind := l.facts[mark(letter, m)]; kind != 0 && (len(got) != 1 || got[0].Kind != kind) {
			l.t.Fatal(what, "answers", got, "behind", words()[kind])
		}
	}
}

// changed holds what became of the rows against what was told: P22.6, P22.7. (Behind a failure of the power nothing that was not told is seen.)
func (l *life) changed(what string, before []api.Row, m mess.Msg, got []mess.Msg) {
	l.t.Helper()
	may := map[string]bool{}
	for _, x := range got {
		letter := map[int]string{mess.Kept: "k", mess.Dropped: "x", mess.Undone: "u"}[x.Kind]
		if letter == "" {
			continue
		}
		if !l.model.has(letter, x) || !l.s.Has(mark(letter, x)[1:]) {
			l.t.Fatal(what, "tells", x, "without a mark")
		}
		if l.facts[mark(letter, x)] == 0 {
			may[mark(letter, x)] = true
			if letter != "x" {
				for _, key := range []string{"~t", "p", "q", "s", "a" + mark(letter, x)[2:], "b" + mark(letter, x)[2:]} {
					may[key] = true
				}
			}
		}
		l.facts[mark(letter, x)] = x.Kind
	}
	for _, c := range cells.New(before...).Diff(cells.New(l.s.Rows()...)) {
		low := c.Key == "~g" && int(c.N) == m.Low
		swept := m.Low > 0 && !c.There && slices.Contains([]string{"~k", "~x", "~u"}, c.Key[:min(2, len(c.Key))])
		if !may[c.Key] && !low && !swept {
			l.t.Fatal(what, "changes", c, "and tells", got)
		}
	}
}

// client does something of somebody else's, or to the works of agents.
func (l *life) client() {
	l.t.Helper()
	op, n := l.op(), l.r.Intn(12)
	ids := l.s.Opened()
	id := 0
	if len(ids) > 0 {
		id = ids[l.r.Intn(len(ids))]
	}
	ours := slices.ContainsFunc(l.a.Works(), func(w agent.Work) bool { return w.Id == id })
	l.both("client", func(s *site.Site, k *tape.Tape) string {
		switch {
		case len(ids) < 4:
			return fmt.Sprint(s.Begin())
		case n == 0:
			return fmt.Sprint(s.Abort(id))
		case ours:
			return ""
		case n < 3:
			return fmt.Sprint(s.Commit(id))
		}
		return fmt.Sprint(s.Do(id, op))
	})
}

// befall is what befalls the tape, or the agent.
func (l *life) befall() {
	l.t.Helper()
	n := l.r.Intn(40)
	switch what := l.r.Intn(20); {
	case what < 1:
		l.both("Fuse", func(s *site.Site, k *tape.Tape) string { k.Fuse(n / 4); return "" })
	case what < 2:
		l.both("Room", func(s *site.Site, k *tape.Tape) string { return fmt.Sprint(k.Room(k.Used() + n)) })
	case what < 12:
		l.both("Room", func(s *site.Site, k *tape.Tape) string { return fmt.Sprint(k.Room(100000)) })
	case what < 17:
		l.base++
	case what < 18:
		l.crash()
	}
}

// crash lets the power fail, and begins anew with what lasts.
func (l *life) crash() {
	l.t.Helper()
	keeps := []int{l.r.Intn(40), l.r.Intn(40), l.r.Intn(40)}
	l.k, l.twin = l.k.Crash(keeps...), l.twin.Crash(keeps...)
	l.begin()
}

// check holds the agent against its model, and the rows against the promises.
func (l *life) check() {
	l.t.Helper()
	if got, want := told(l.a.Works()), told(l.model.works()); got != want || l.a.Low() != l.model.low {
		l.t.Fatal("works", got, "not", want, "low", l.a.Low(), "not", l.model.low)
	}
	l.both("the site", func(s *site.Site, k *tape.Tape) string {
		return fmt.Sprint(s.Rows(), s.Opened(), s.Serial(), k.Segs(), k.Used(), k.Down())
	})
	for _, seg := range l.k.Segs() {
		a, _ := l.k.Read(seg)
		b, _ := l.twin.Read(seg)
		if !bytes.Equal(a, b) {
			l.t.Fatal("another tape")
		}
	}
	l.once()
}

// once holds the rows against the marks: P22.5.
func (l *life) once() {
	l.t.Helper()
	rows := cells.New(l.s.Rows()...)
	for g := 1; g <= l.base+2; g++ {
		for node := range 2 {
			name := fmt.Sprintf("%d.%d", g, node)
			n := map[string]int64{}
			for _, key := range []string{"a", "b", "~k", "~x", "~u"} {
				n[key], _ = rows.Get(key + name)
			}
			stands := fmt.Sprint(n)
			if n["a"] > 1 || n["b"] > n["a"] {
				l.t.Fatal(name, stands)
			}
			if g < l.a.Low() {
				if was := l.over[name]; n["~k"]+n["~x"]+n["~u"] > 0 || was != "" && was != stands {
					l.t.Fatal(name, "is over with", was, "and stands", stands)
				}
				l.over[name] = stands
				continue
			}
			if n["~k"] != n["a"] || n["~u"] != n["b"] || n["~x"]+n["~k"] > 1 {
				l.t.Fatal(name, stands)
			}
		}
	}
}

// P22.2 to P22.7: whatever comes, against a model of the chapter's words, on a site of each kind.
func TestLives(t *testing.T) {
	each(t, func(t *testing.T, kind int) {
		seen := map[string]int{}
		for seed := range 60 {
			l := live(t, kind, seed, seen)
			for range 250 {
				switch n := l.r.Intn(16); {
				case l.k.Down() && n < 3:
					l.crash()
				case n < 5:
					l.handle()
				case n < 7:
					l.step()
				case n < 8:
					l.now += int64(l.r.Intn(3))
				case n < 15:
					l.client()
				default:
					l.befall()
				}
				l.check()
			}
		}
		want := [][]string{
			site.Locks:    {"failed 5", "failed 21", "failed 27"},
			site.Versions: {"failed 22", "failed 27"},
			site.Looks:    {"lost 23"},
		}[kind]
		for _, what := range append(want, "held 0", "failed 24", "kept 0", "lost 3", "lost 26", "lost 5", "dropped 0", "undone 0") {
			if seen[what] == 0 {
				t.Error("never seen:", what)
			}
		}
	})
}
