package plan_test

import (
	"fmt"
	"math/rand"
	"slices"
	"testing"

	"byroad/api"
	"byroad/flex"
	"byroad/plan"
)

// player plays a plan to its end, in each way that there is.
type player struct {
	t    *testing.T
	m    model
	most int            // steps that are left, at a state of nothing
	seen map[string]int // of each state, with who was told as Failed: the fewest steps that were gone to it
	ends map[int]int    // how often a kind of end was come to
}

// play plays on from a state behind so many steps; told is the nodes that were answered Failed.
func (p *player) play(s plan.State, told set, steps int) {
	p.t.Helper()
	key := fmt.Sprint(s, told.list())
	if before, there := p.seen[key]; there && before >= steps {
		return
	}
	p.seen[key] = steps
	next := p.m.Next(s)
	if steps > p.most {
		p.t.Fatal("too many steps", flex.Print(p.m.Spec), s)
	}
	compare(p.t, p.m, s)
	p.used(s, next)
	p.try(s, told, steps, p.m.Cancelled)
	switch sub, _ := p.m.Sub(next.Node); next.Kind {
	case plan.Run, plan.Drop:
		p.try(s, told, steps+1, func(s plan.State) (plan.State, api.Errno) { return p.m.Kept(s, next.Node) })
		if next.Kind == plan.Drop || !sub.Sure() {
			also := setOf(append(told.list(), next.Node)...)
			p.try(s, also, steps+1, func(s plan.State) (plan.State, api.Errno) { return p.m.Failed(s, next.Node) })
		}
	case plan.Undo:
		p.try(s, told, steps+1, func(s plan.State) (plan.State, api.Errno) { return p.m.Undone(s, next.Node) })
	case plan.Commit:
		p.ends[next.Kind]++
		p.witnesses(s, told)
	case plan.Abort:
		p.ends[next.Kind]++
	default:
		p.t.Fatal("stuck", flex.Print(p.m.Spec), s)
	}
}

// try plays on behind a call, if it was OK. No call adds a site (P26.8).
func (p *player) try(s plan.State, told set, steps int, call func(plan.State) (plan.State, api.Errno)) {
	p.t.Helper()
	n, e := call(s)
	if e != api.OK {
		return
	}
	if !p.m.May(n) {
		p.t.Fatal("may not be", flex.Print(p.m.Spec), s, n)
	}
	for _, site := range p.m.Uses(n) {
		if !slices.Contains(p.m.Uses(s), site) {
			p.t.Fatal("a site more", flex.Print(p.m.Spec), s, n, p.m.Uses(s), p.m.Uses(n))
		}
	}
	p.play(n, told, steps)
}

// used fails the test, if a step is at no site that is used (P26.8).
func (p *player) used(s plan.State, next plan.Step) {
	p.t.Helper()
	sub, ok := p.m.Sub(next.Node)
	if ok && next.Kind != plan.Commit && !slices.Contains(p.m.Uses(s), sub.Site) {
		p.t.Fatal("a site that is not used", flex.Print(p.m.Spec), s, next)
	}
}

// witnesses fails the test, if a leaf that is preferred has no witness (P26.7).
func (p *player) witnesses(s plan.State, told set) {
	p.t.Helper()
	for _, leaf := range p.m.Leaves() {
		if !p.m.Prefers(leaf, s.At) {
			continue
		}
		w := p.m.Witness(s, leaf)
		if w < 0 || !told[w] || !p.m.under(w, p.m.Meet(leaf, s.At)) {
			p.t.Fatal("no witness", flex.Print(p.m.Spec), s, leaf, w)
		}
	}
}

// P26.6 to P26.8: all ways to an end, of any plans.
func TestAllWays(t *testing.T) {
	r := rand.New(rand.NewSource(266))
	ends := map[int]int{}
	plans := 0
	for plans < 300 {
		m := model{random(r)}
		if len(m.Nodes) > 12 {
			continue // it has too many ways
		}
		plans++
		p := &player{t: t, m: m, most: 2*len(m.Nodes) + 1, seen: map[string]int{}, ends: ends}
		p.play(plan.State{}, set{}, 1)
	}
	if ends[plan.Commit] < 300 || ends[plan.Abort] < 300 {
		t.Error("too few ends", ends)
	}
}

// P26.6 to P26.8: some ways, of plans as great as they may be.
func TestGreatest(t *testing.T) {
	r := rand.New(rand.NewSource(267))
	for range 200 {
		m := model{greatest(r)}
		for range 20 {
			steps, told := 0, set{}
			p := &player{t: t, m: m, ends: map[int]int{}}
			for s := (plan.State{}); ; steps++ {
				next := m.Next(s)
				p.used(s, next)
				if next.Kind == plan.Commit {
					p.witnesses(s, told)
				}
				if next.Kind == plan.Commit || next.Kind == plan.Abort {
					break
				}
				if next.Kind == plan.Stuck || steps > 2*len(m.Nodes) {
					t.Fatal(flex.Print(m.Spec), s, next, steps)
				}
				s = answer(r, m, s, next, told)
			}
		}
	}
}

// greatest is a plan of many nodes.
func greatest(r *rand.Rand) plan.Plan {
	for {
		var p flex.Spec
		for i := range api.MaxSubs {
			s := flex.Sub{Name: string(rune('a' + i)), Site: r.Intn(api.Sites), Type: flex.Comp + 2*r.Intn(2), Do: []api.Op{{Kind: api.Get, Key: "x"}}, Undo: []api.Op{{Kind: api.Get, Key: "x"}}}
			p.Subs = append(p.Subs, s)
		}
		first := r.Perm(api.MaxSubs)
		for i := range api.MaxPath {
			path := []int{first[i]}
			for _, x := range r.Perm(api.MaxSubs) {
				if x != first[i] && len(path) < api.MaxPath {
					path = append(path, x)
				}
			}
			p.Paths = append(p.Paths, path)
		}
		if x, _, e := plan.Of(p); e == api.OK && len(x.Nodes) == 1+api.MaxPath*api.MaxPath {
			return x
		}
	}
}

// answer is the state behind a step that was answered in any way; now and then all is given up.
func answer(r *rand.Rand, m model, s plan.State, next plan.Step, told set) plan.State {
	if n, e := m.Cancelled(s); e == api.OK && r.Intn(60) == 0 {
		return n
	}
	sub, _ := m.Sub(next.Node)
	call := m.Kept
	switch {
	case next.Kind == plan.Undo:
		call = m.Undone
	case (next.Kind == plan.Drop || !sub.Sure()) && r.Intn(4) == 0:
		call, told[next.Node] = m.Failed, true
	}
	n, e := call(s, next.Node)
	if e != api.OK {
		panic(fmt.Sprint(s, next, e))
	}
	return n
}
