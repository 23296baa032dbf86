package sound_test

import (
	"fmt"
	"math"
	"math/rand"
	"slices"
	"testing"

	"byroad/api"
	"byroad/flex"
	"byroad/sound"
	"byroad/trie"
)

// op is any operation on one of few keys.
func op(r *rand.Rand, kinds ...int) api.Op {
	o := api.Op{Kind: kinds[r.Intn(len(kinds))], Key: string(rune('x' + r.Intn(2)))}
	if o.Kind != api.Get && o.Kind != api.Del {
		o.N = int64(r.Intn(3) - 1)
	}
	return o
}

// sub is any subtransaction; now and then its operations do not fit its type.
func sub(r *rand.Rand, name string) flex.Sub {
	all, total := []int{api.Get, api.Put, api.Del, api.Add, api.Min, api.Back}, []int{api.Get, api.Put, api.Del, api.Back}
	s := flex.Sub{Name: name, Site: r.Intn(api.Sites), Type: r.Intn(4)}
	do, undo := all, total
	if s.Sure() {
		do = total
	}
	if r.Intn(40) == 0 {
		do, undo = all, all
	}
	for range 1 + r.Intn(3) {
		s.Do = append(s.Do, op(r, do...))
		if s.Undoable() {
			s.Undo = append(s.Undo, op(r, undo...))
		}
	}
	return s
}

// below is any paths that begin with what is ahead, of elements below most.
func below(r *rand.Rand, ahead []int, most int) [][]int {
	var l [][]int
	kids := 1 + r.Intn(3)
	for _, x := range r.Perm(most) {
		if kids == 0 || slices.Contains(ahead, x) {
			continue
		}
		kids--
		p := append(slices.Clone(ahead), x)
		if len(p) == most || r.Intn(3) == 0 {
			l = append(l, p)
			continue
		}
		l = append(l, below(r, p, most)...)
	}
	return l
}

// random is any flexible transaction; its paths are not always a tree's.
func random(r *rand.Rand) flex.Spec {
	var p flex.Spec
	for i := range 2 + r.Intn(6) {
		p.Subs = append(p.Subs, sub(r, string(rune('a'+i))))
	}
	l := below(r, nil, len(p.Subs))
	p.Paths = l[:min(len(l), 1+r.Intn(api.MaxPath))]
	if r.Intn(10) == 0 {
		i, k := r.Intn(len(p.Paths)), r.Intn(len(p.Paths))
		p.Paths[i], p.Paths[k] = p.Paths[k], p.Paths[i]
	}
	return p
}

// total tells whether operations never fail.
func total(l []api.Op) bool {
	return !slices.ContainsFunc(l, func(o api.Op) bool { return o.Kind == api.Add || o.Kind == api.Min })
}

// model is a flexible transaction by the beginnings of its paths.
type model struct {
	p flex.Spec
	t trie.Trie
}

// of is a node's subtransaction, by its path.
func (m model) of(node int) flex.Sub {
	path := m.t.Path(node)
	return m.p.Subs[path[len(path)-1]]
}

// end tells whether an end follows for sure from a node.
func (m model) end(node int) bool {
	kids := m.t.Nodes[node].Kids
	if len(kids) == 0 {
		return true
	}
	last := kids[len(kids)-1]
	ty := m.of(last).Type
	return (ty == flex.Retry || ty == flex.Both) && m.end(last)
}

// stays tells whether a node's subtransaction can't be taken back.
func (m model) stays(node int) bool {
	return node == 0 || m.of(node).Type == flex.Pivot || m.of(node).Type == flex.Retry
}

// anchor is a node's anchor.
func (m model) anchor(node int) int {
	for !m.stays(node) {
		node = m.t.Nodes[node].Up
	}
	return node
}

// left tells whether a node may be left without an end: whichever subtransactions fail that are not sure. Of a node that stays that is a stuck one.
func (m model) left(node int) bool {
	kids := m.t.Nodes[node].Kids
	for _, k := range kids {
		ty := m.of(k).Type
		fails := ty == flex.Pivot || ty == flex.Comp
		back := !m.stays(k) && m.left(k)
		if !fails && !back {
			return false
		}
	}
	return len(kids) > 0
}

// meant is what Check tells of a flexible transaction that may be.
func meant(p flex.Spec) (int, api.Errno) {
	for i, s := range p.Subs {
		sure, undo := s.Type >= flex.Retry, s.Type%2 == 1
		if sure && !total(s.Do) || undo && !total(s.Undo) {
			return i, api.ErrType
		}
	}
	t, e := trie.Build(p.Paths...)
	if e != api.OK {
		return 0, e
	}
	m := model{p, t}
	for n := 1; n < len(t.Nodes); n++ {
		if m.stays(n) && !m.end(n) {
			return n, api.ErrStuck
		}
	}
	return 0, api.OK
}

// takes is what Takes tells of a flexible transaction that may be.
func takes(p flex.Spec) bool {
	for _, s := range p.Subs {
		sums := map[string]int64{}
		for _, o := range append(slices.Clone(s.Do), s.Undo...) {
			sums[o.Key] += o.N
		}
		bad := func(kinds ...int) func(api.Op) bool {
			return func(o api.Op) bool { return slices.Contains(kinds, o.Kind) }
		}
		whole := sums["x"] == 0 && sums["y"] == 0 && !slices.ContainsFunc(s.Do, bad(api.Put, api.Del)) &&
			!slices.ContainsFunc(s.Undo, bad(api.Put, api.Del, api.Add, api.Min))
		if s.Type%2 == 1 && !whole {
			return false
		}
	}
	return true
}

// P25.1 to P25.3: any flexible transactions.
func TestAny(t *testing.T) {
	r := rand.New(rand.NewSource(25))
	seen, taken := map[api.Errno]int{}, 0
	for range 20000 {
		p := random(r)
		was := fmt.Sprint(p)
		place, want := meant(p)
		x, at, e := sound.Check(p)
		seen[e]++
		if e != want || at != place || (e != api.OK) != (len(x.Nodes) == 0) {
			t.Fatalf("Check of\n%s\n%v %d %d, not %d %d", flex.Print(p), x, at, e, place, want)
		}
		if sound.Takes(p) != takes(p) {
			t.Fatal("Takes", flex.Print(p))
		}
		if takes(p) {
			taken++
		}
		tree, wrong := trie.Build(p.Paths...)
		if e == api.OK && fmt.Sprint(x) != fmt.Sprint(tree) {
			t.Fatal("the tree", x)
		}
		if wrong != api.OK {
			continue
		}
		m := model{p, tree}
		for n := range tree.Nodes {
			if sound.Safe(p, tree, n) != m.end(n) || sound.Anchor(p, tree, n) != m.anchor(n) {
				t.Fatal("Safe, Anchor", flex.Print(p), n)
			}
			if e == api.OK && n > 0 && m.stays(n) && m.left(n) {
				t.Fatal("no end", flex.Print(p), n) // P25.3
			}
		}
		if fmt.Sprint(p) != was {
			t.Fatal("changed", was)
		}
	}
	if seen[api.OK] < 3000 || seen[api.ErrType] < 300 || seen[api.ErrPath] < 300 || seen[api.ErrStuck] < 3000 || taken < 300 {
		t.Error("too few of a kind", seen, taken)
	}
}

// P25.4: all can be taken back, and never fails.
func TestAllTakenBack(t *testing.T) {
	r := rand.New(rand.NewSource(254))
	for range 2000 {
		p := random(r)
		for i := range p.Subs {
			s := &p.Subs[i]
			s.Type = []int{flex.Comp, flex.Both}[r.Intn(2)]
			s.Do, s.Undo = []api.Op{{Kind: api.Put, Key: "x"}}, []api.Op{{Kind: api.Back, Key: "x", N: 3}}
		}
		if _, e := trie.Build(p.Paths...); e == api.OK {
			well(t, p)
		}
	}
}

// Rule 4: what is written into a tree is seen in no later one.
func TestAnswersAreTheCallersOwn(t *testing.T) {
	p := paths(t, "a b", "a c")
	was := flex.Print(p)
	x := well(t, p)
	x.Nodes[1].Kids[0] = 77
	x.Nodes[1].Kids = append(x.Nodes[1].Kids[:1], 78)
	well(t, p)
	if flex.Print(p) != was {
		t.Error("changed", flex.Print(p))
	}
}

// P1: trees that Build did not make, and flexible transactions that may not be.
func TestHandMade(t *testing.T) {
	p := paths(t, "a b", "a c")
	deep := trie.Trie{Nodes: make([]trie.Node, 1<<16)}
	for i := range deep.Nodes {
		deep.Nodes[i] = trie.Node{Sub: 3, Up: i - 1, Kids: []int{i + 1}}
	}
	round := trie.Trie{Nodes: []trie.Node{{Sub: -1, Up: 2, Kids: []int{1}}, {Sub: 3, Up: 0, Kids: []int{2}}, {Sub: 3, Up: 1, Kids: []int{0, 1}}}}
	self := trie.Trie{Nodes: []trie.Node{{Sub: 3, Up: 0, Kids: []int{0}}, {Sub: 3, Up: 1, Kids: []int{1}}}}
	odd := trie.Trie{Nodes: []trie.Node{{Sub: 99, Up: math.MinInt, Kids: []int{math.MaxInt}}, {Sub: -5, Up: 7, Kids: []int{-1}}, {Sub: math.MinInt, Up: 0}}}
	for _, x := range []trie.Trie{{}, {Nodes: make([]trie.Node, 3)}, deep, round, self, odd} {
		for _, n := range []int{0, 1, 2, 3, -1, len(x.Nodes) - 1, len(x.Nodes), math.MinInt, math.MaxInt} {
			for _, q := range []flex.Spec{p, {}, {Subs: p.Subs[:1]}} {
				sound.Safe(q, x, n)
				sound.Anchor(q, x, n)
			}
			if n < 0 || n >= len(x.Nodes) {
				if sound.Safe(p, x, n) || sound.Anchor(p, x, n) != -1 {
					t.Error("no node", n)
				}
			}
		}
	}
	q := flex.Spec{Subs: make([]flex.Sub, 1<<16), Paths: make([][]int, 1<<16)}
	if _, at, e := sound.Check(q); e != api.ErrArg || at != 0 || sound.Takes(q) {
		t.Error("too many", at, e)
	}
}
