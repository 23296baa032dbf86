package plan_test

import (
	"fmt"
	"maps"
	"math/rand"
	"slices"
	"testing"

	"byroad/api"
	"byroad/flex"
	"byroad/plan"
)

// below is any paths that begin with what is ahead, of elements below most.
func below(r *rand.Rand, ahead []int, most int) [][]int {
	var l [][]int
	kids := 1 + r.Intn(3)
	for _, x := range r.Perm(most) {
		if kids == 0 || slices.Contains(ahead, x) {
			continue
		}
		kids--
		p := append(slices.Clone(ahead), x)
		if len(p) == most || r.Intn(3) == 0 {
			l = append(l, p)
			continue
		}
		l = append(l, below(r, p, most)...)
	}
	return l
}

// random is any plan.
func random(r *rand.Rand) plan.Plan {
	for {
		var p flex.Spec
		for i := range 2 + r.Intn(6) {
			s := flex.Sub{Name: string(rune('a' + i)), Site: r.Intn(api.Sites), Type: r.Intn(4), Do: []api.Op{{Kind: api.Put, Key: "x", N: int64(i)}}}
			if s.Type == flex.Pivot && r.Intn(2) == 0 {
				s.Type = flex.Comp
			}
			if s.Undoable() {
				s.Undo = []api.Op{{Kind: api.Del, Key: "x"}}
			}
			p.Subs = append(p.Subs, s)
		}
		l := below(r, nil, len(p.Subs))
		p.Paths = l[:min(len(l), 1+r.Intn(api.MaxPath))]
		if x, _, e := plan.Of(p); e == api.OK {
			return x
		}
	}
}

// set is nodes.
type set map[int]bool

// setOf is these nodes.
func setOf(l ...int) set {
	m := set{}
	for _, n := range l {
		m[n] = true
	}
	return m
}

// list is nodes, rising.
func (m set) list() []int { return slices.Sorted(maps.Keys(m)) }

// model is a plan as the chapter speaks of it.
type model struct{ plan.Plan }

// up is the node ahead of one.
func (m model) up(n int) int { return m.Nodes[n].Up }

// kids is those behind it.
func (m model) kids(n int) []int { return m.Nodes[n].Kids }

// path is the nodes from the root to one.
func (m model) path(n int) []int {
	if n == 0 {
		return []int{0}
	}
	return append(m.path(m.up(n)), n)
}

// under tells whether a node is below another one.
func (m model) under(n, other int) bool {
	return n != other && slices.Contains(m.path(n), other)
}

// sub is a node's subtransaction.
func (m model) sub(n int) flex.Sub { return m.Subs[m.Nodes[n].Sub] }

// back tells whether a node's subtransaction can be taken back.
func (m model) back(n int) bool {
	return n != 0 && (m.sub(n).Type == flex.Comp || m.sub(n).Type == flex.Both)
}

// may tells whether a state may be.
func (m model) may(s plan.State) bool {
	if s.At < 0 || s.At >= len(m.Nodes) || !slices.IsSorted(s.Failed) || len(setOf(s.Failed...)) != len(s.Failed) {
		return false
	}
	for _, n := range s.Failed {
		if n < 1 || n >= len(m.Nodes) || n == s.At || m.under(s.At, n) {
			return false
		}
	}
	return true
}

// open is the first kid that is not in Failed.
func (m model) open(s plan.State) (int, bool) {
	for _, k := range m.kids(s.At) {
		if !setOf(s.Failed...)[k] {
			return k, true
		}
	}
	return 0, false
}

// next is P26.2.
func (m model) next(s plan.State) plan.Step {
	if !m.may(s) {
		return plan.Step{Kind: plan.Stuck, Node: 0}
	}
	k, open := m.open(s)
	if !s.Cancel {
		if len(m.kids(s.At)) == 0 {
			return plan.Step{Kind: plan.Commit, Node: s.At}
		}
		if open {
			return plan.Step{Kind: plan.Run, Node: k}
		}
	} else if open {
		return plan.Step{Kind: plan.Drop, Node: k}
	}
	if s.At == 0 {
		return plan.Step{Kind: plan.Abort, Node: 0}
	}
	if m.back(s.At) {
		return plan.Step{Kind: plan.Undo, Node: s.At}
	}
	return plan.Step{Kind: plan.Stuck, Node: s.At}
}

// step is what P26.3 says of Kept, Failed and Undone.
func (m model) step(kind string, s plan.State, node int) (plan.State, api.Errno) {
	failed := setOf(s.Failed...)
	if !m.may(s) {
		return s, api.ErrArg
	}
	if kind == "undone" {
		if node != s.At || !m.back(node) {
			return plan.State{}, api.ErrState
		}
		s.At = m.up(node)
	} else if !slices.Contains(m.kids(s.At), node) || failed[node] {
		return plan.State{}, api.ErrState
	}
	if kind == "kept" {
		s.At = node
	} else {
		failed[node] = true
	}
	return plan.State{At: s.At, Failed: failed.list(), Cancel: s.Cancel}, api.OK
}

// cancelled is what it says of Cancelled.
func (m model) cancelled(s plan.State) (plan.State, api.Errno) {
	if !m.may(s) {
		return s, api.ErrArg
	}
	for _, n := range m.path(s.At) {
		if n != 0 && !m.back(n) {
			return plan.State{}, api.ErrPast
		}
	}
	k, open := m.open(s)
	if len(m.kids(s.At)) == 0 || !s.Cancel && open && !m.back(k) {
		return plan.State{}, api.ErrPast
	}
	failed, path := setOf(s.Failed...), setOf(m.path(s.At)...)
	for n := range m.Nodes {
		if n == 0 {
			continue
		}
		if path[m.up(n)] && !path[n] && !(open && n == k) || open && m.up(n) == k {
			failed[n] = true
		}
	}
	return plan.State{At: s.At, Failed: failed.list(), Cancel: true}, api.OK
}

// lost tells whether a node is in Failed, or below one that is.
func (m model) lost(s plan.State, n int) bool {
	return slices.ContainsFunc(m.path(n), func(n int) bool { return setOf(s.Failed...)[n] })
}

// uses is P26.4.
func (m model) uses(s plan.State) []int {
	if !m.may(s) || len(m.kids(s.At)) == 0 && !s.Cancel {
		return nil
	}
	sites := set{}
	from := func(n int) {
		for k := range m.Nodes {
			if m.under(k, n) && !m.lost(s, k) {
				sites[m.sub(k).Site] = true
			}
		}
	}
	from(s.At)
	for n := s.At; m.back(n); n = m.up(n) {
		sites[m.sub(n).Site] = true
		from(m.up(n))
	}
	return sites.list()
}

// witness is P26.5.
func (m model) witness(s plan.State, leaf int) int {
	last := -1
	if !m.may(s) || leaf < 0 || leaf >= len(m.Nodes) || len(m.kids(leaf)) > 0 {
		return last
	}
	for _, n := range m.path(leaf) {
		if setOf(s.Failed...)[n] {
			last = n
		}
	}
	return last
}

// state is any state; mostly one that may be.
func state(r *rand.Rand, m model) plan.State {
	s := plan.State{At: r.Intn(len(m.Nodes)), Cancel: r.Intn(3) == 0}
	often := 1 + r.Intn(4)
	over := m.path(s.At)
	for n := range m.Nodes {
		if n > 0 && r.Intn(often) == 0 && !slices.Contains(over, n) {
			s.Failed = append(s.Failed, n)
		}
	}
	switch r.Intn(20) {
	case 0:
		s.At = r.Intn(len(m.Nodes)+2) - 1
	case 1:
		s.Failed = append(s.Failed, r.Intn(len(m.Nodes)+2)-1)
	case 2:
		r.Shuffle(len(s.Failed), func(i, k int) { s.Failed[i], s.Failed[k] = s.Failed[k], s.Failed[i] })
	case 3:
		s.Failed = slices.Insert(s.Failed, r.Intn(len(s.Failed)+1), r.Intn(len(m.Nodes)))
	}
	return s
}

// compare fails the test, if a plan answers anything otherwise than its model.
func compare(t *testing.T, m model, s plan.State) {
	t.Helper()
	wrong := func(name string, a ...any) {
		t.Helper()
		t.Fatalf("%s of %v in\n%s\n%v", name, s, flex.Print(m.Spec), a)
	}
	if m.May(s) != m.may(s) {
		wrong("May")
	}
	if m.Next(s) != m.next(s) {
		wrong("Next", m.Next(s), m.next(s))
	}
	if !slices.Equal(m.Uses(s), m.uses(s)) {
		wrong("Uses", m.Uses(s), m.uses(s))
	}
	if m.may(s) && !slices.Equal(m.Done(s), m.path(s.At)[1:]) || !m.may(s) && len(m.Done(s)) > 0 {
		wrong("Done", m.Done(s))
	}
	a, e := m.Cancelled(s)
	if b, want := m.cancelled(s); e != want || !same(a, b) {
		wrong("Cancelled", a, e, b, want)
	}
	for n := -1; n <= len(m.Nodes); n++ {
		for kind, call := range map[string]func(plan.State, int) (plan.State, api.Errno){"kept": m.Kept, "failed": m.Failed, "undone": m.Undone} {
			a, e := call(s, n)
			if b, want := m.step(kind, s, n); e != want || !same(a, b) {
				wrong(kind, n, a, e, b, want)
			}
			if e == api.OK && !m.May(a) {
				wrong(kind, n, a, "may not be")
			}
		}
		if m.Witness(s, n) != m.witness(s, n) {
			wrong("Witness", n, m.Witness(s, n), m.witness(s, n))
		}
	}
}

// P26.1 to P26.5: any states of any plans.
func TestAny(t *testing.T) {
	r := rand.New(rand.NewSource(26))
	may, may0 := 0, 0
	for range 1500 {
		m := model{random(r)}
		for n := range m.Nodes {
			s, ok := m.Sub(n)
			if ok != (n > 0) || ok && fmt.Sprint(s) != fmt.Sprint(m.sub(n)) {
				t.Fatal("Sub", n, s)
			}
		}
		for range 40 {
			s := state(r, m)
			was := fmt.Sprint(s)
			compare(t, m, s)
			if fmt.Sprint(s) != was {
				t.Fatal("changed", s, was)
			}
			if m.may(s) {
				may++
			} else {
				may0++
			}
		}
	}
	if may < 30000 || may0 < 3000 {
		t.Error("too few", may, may0)
	}
}
