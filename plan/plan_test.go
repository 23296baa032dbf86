package plan_test

import (
	"fmt"
	"math"
	"slices"
	"strings"
	"testing"

	"byroad/api"
	"byroad/flex"
	"byroad/plan"
	"byroad/sound"
	"byroad/trie"
)

// subs are subtransactions of all types.
const subs = "sub a 0 comp add x 5 | back x -5\nsub b 1 pivot put z 3\nsub c 2 retry put w 1\nsub d 2 both put v 1 | del v\nsub e 0 comp put u 1 | del u\nsub f 1 comp put t 1 | del t"

// spec is the flexible transaction of the usual subtransactions and these paths, each of names.
func spec(t *testing.T, paths ...string) flex.Spec {
	t.Helper()
	p, at, e := flex.Parse(subs + "\npath " + strings.Join(paths, "\npath "))
	if e != api.OK {
		t.Fatal("Parse", paths, at, e)
	}
	return p
}

// of is the plan of these paths.
func of(t *testing.T, paths ...string) plan.Plan {
	t.Helper()
	p, at, e := plan.Of(spec(t, paths...))
	if e != api.OK || at != 0 {
		t.Fatal("Of", paths, at, e)
	}
	return p
}

// at is a state that is not cancelled.
func at(node int, failed ...int) plan.State {
	return plan.State{At: node, Failed: failed}
}

// given is a state that is cancelled.
func given(node int, failed ...int) plan.State {
	return plan.State{At: node, Failed: failed, Cancel: true}
}

// same tells whether two states have the same of everything.
func same(a, b plan.State) bool {
	return a.At == b.At && slices.Equal(a.Failed, b.Failed) && a.Cancel == b.Cancel
}

// told fails the test, if a call did not answer that state and error.
func told(t *testing.T, want plan.State, wrong api.Errno) func(plan.State, api.Errno) {
	t.Helper()
	return func(s plan.State, e api.Errno) {
		t.Helper()
		if e != wrong || !same(s, want) {
			t.Error(s, e, "not", want, wrong)
		}
	}
}

// nowhere are numbers that are never a node's.
var nowhere = []int{-1, 99, 1 << 32, math.MinInt, math.MaxInt}

// The document's example.
func TestDocExample(t *testing.T) {
	p, _, e := plan.Of(spec(t, "a b", "a c"))
	if e != api.OK {
		t.Fatal(e)
	}
	var s plan.State
	if u := p.Uses(s); !slices.Equal(u, []int{0, 1, 2}) {
		t.Error("Uses", u)
	}
	step := func(kind, node int) {
		t.Helper()
		if x := p.Next(s); x != (plan.Step{Kind: kind, Node: node}) {
			t.Error("Next", x)
		}
	}
	step(plan.Run, 1)
	s, _ = p.Kept(s, 1)
	step(plan.Run, 2)
	s, _ = p.Failed(s, 2)
	if u := p.Uses(s); !slices.Equal(u, []int{0, 2}) {
		t.Error("Uses", u)
	}
	if w := p.Witness(s, 2); w != 2 {
		t.Error("Witness", w)
	}
	step(plan.Run, 3)
	s, _ = p.Kept(s, 3)
	step(plan.Commit, 3)
}

// The kinds of steps are numbers that others may have written down.
func TestKinds(t *testing.T) {
	if fmt.Sprint(plan.Run, plan.Undo, plan.Commit, plan.Abort, plan.Stuck, plan.Drop) != "1 2 3 4 5 6" {
		t.Error("kinds")
	}
}

// P26.1: Of, of one that is well-formed.
func TestOf(t *testing.T) {
	q := spec(t, "a b", "a c", "e")
	p := of(t, "a b", "a c", "e")
	x, _, _ := sound.Check(q)
	if !flex.Same(p.Spec, q) || fmt.Sprint(p.Trie) != fmt.Sprint(x) || len(p.Nodes) != 5 {
		t.Error(p)
	}
	if fmt.Sprint(p.Leaves(), p.Path(3), p.Meet(2, 3), len(p.Subs), p.Paths) != "[2 3 4] [0 2] 1 6 [[0 1] [0 2] [4]]" {
		t.Error("what a plan is beside is not asked of it", p)
	}
}

// P26.1: Of, of one that is not.
func TestOfRefused(t *testing.T) {
	wrong := spec(t, "a b")
	wrong.Subs[2].Do[0].Kind = api.Add
	for _, w := range []struct {
		p     flex.Spec
		place int
		want  api.Errno
	}{
		{flex.Spec{}, 0, api.ErrArg},
		{wrong, 2, api.ErrType},
		{spec(t, "a", "a b"), 0, api.ErrPath},
		{spec(t, "b a"), 1, api.ErrStuck},
		{spec(t, "a e b f", "c"), 3, api.ErrStuck},
	} {
		p, place, e := plan.Of(w.p)
		if place != w.place || e != w.want || len(p.Nodes) != 0 || len(p.Subs) != 0 || len(p.Paths) != 0 {
			t.Error(p, place, e, "not", w.place, w.want)
		}
	}
}

// P26.1: Sub.
func TestSub(t *testing.T) {
	q := spec(t, "a b", "a d c", "e")
	p := of(t, "a b", "a d c", "e")
	for node, name := range []string{"", "a", "b", "d", "c", "e"} {
		s, ok := p.Sub(node)
		i := slices.IndexFunc(q.Subs, func(s flex.Sub) bool { return s.Name == name })
		if ok != (node > 0) || ok && fmt.Sprint(s) != fmt.Sprint(q.Subs[i]) || !ok && fmt.Sprint(s) != fmt.Sprint(flex.Sub{}) {
			t.Error(node, s, ok)
		}
	}
	for _, n := range append(nowhere, 6) {
		if s, ok := p.Sub(n); ok || s.Name != "" || s.Do != nil {
			t.Error(n, s, ok)
		}
	}
}

// P26.1: May and Done.
func TestMayAndDone(t *testing.T) {
	p := of(t, "a b", "a d c", "a d f", "e") // nodes: 0 root, 1 a, 2 b, 3 d, 4 c, 5 f, 6 e
	for _, w := range []struct {
		s    plan.State
		done string
	}{
		{at(0), "[]"}, {at(1), "[1]"}, {at(2), "[1 2]"}, {at(3), "[1 3]"}, {at(4), "[1 3 4]"}, {at(5), "[1 3 5]"}, {at(6), "[6]"},
		{at(0, 1, 2, 3, 4, 5, 6), "[]"}, {at(3, 2), "[1 3]"}, {at(3, 2, 4, 5, 6), "[1 3]"}, {given(0), "[]"}, {given(5, 6), "[1 3 5]"}, {at(6, 1), "[6]"},
		{at(0, 5), "[]"}, {at(3, 4), "[1 3]"},
	} {
		if !p.May(w.s) || fmt.Sprint(p.Done(w.s)) != w.done {
			t.Error(w.s, p.May(w.s), p.Done(w.s))
		}
	}
	wrong := []plan.State{
		at(7), at(-1), given(7), at(7, 1), // no node
		at(0, 0), at(6, 0), at(1, 0, 2), // the root has not failed
		at(1, 1), at(3, 1), at(4, 1, 2), at(4, 2, 3), at(5, 5), at(5, 2, 5, 6), // nor has what is committed
		at(0, 2, 1), at(0, 1, 3, 2), at(0, 2, 2), at(0, 6, 6), // they rise
		at(0, 7), at(0, -1), at(0, -1, 1), at(0, 1, 7), given(0, 1, 99), // and are nodes
	}
	for _, n := range nowhere {
		wrong = append(wrong, at(n), at(0, n), given(n, n))
	}
	for _, s := range wrong {
		refused(t, p, s)
	}
	refused(t, plan.Plan{}, at(0))
}

// refused fails the test, if a state that may not be is not answered so by all.
func refused(t *testing.T, p plan.Plan, s plan.State) {
	t.Helper()
	if p.May(s) || len(p.Done(s)) != 0 || len(p.Uses(s)) != 0 || p.Next(s) != (plan.Step{Kind: plan.Stuck}) {
		t.Error(s, p.May(s), p.Done(s), p.Uses(s), p.Next(s))
	}
	told(t, s, api.ErrArg)(p.Cancelled(s))
	for _, n := range append([]int{0, 1, 2, 3, 4, 5, 6, s.At}, nowhere...) {
		told(t, s, api.ErrArg)(p.Kept(s, n))
		told(t, s, api.ErrArg)(p.Failed(s, n))
		told(t, s, api.ErrArg)(p.Undone(s, n))
		if w := p.Witness(s, n); w != -1 {
			t.Error(s, n, "Witness", w)
		}
	}
}

// P26.2
func TestNext(t *testing.T) {
	p := of(t, "a b", "a d c", "a d f", "b c", "e") // nodes: 0 root, 1 a, 2 b, 3 d, 4 c, 5 f, 6 b, 7 c, 8 e
	for _, w := range []struct {
		s    plan.State
		want plan.Step
	}{
		{at(0), plan.Step{Kind: plan.Run, Node: 1}},
		{at(0, 1), plan.Step{Kind: plan.Run, Node: 6}},
		{at(0, 6), plan.Step{Kind: plan.Run, Node: 1}},
		{at(0, 1, 6), plan.Step{Kind: plan.Run, Node: 8}},
		{at(0, 1, 6, 8), plan.Step{Kind: plan.Abort}},
		{at(1), plan.Step{Kind: plan.Run, Node: 2}},
		{at(1, 2), plan.Step{Kind: plan.Run, Node: 3}},
		{at(1, 2, 3), plan.Step{Kind: plan.Undo, Node: 1}},
		{at(2), plan.Step{Kind: plan.Commit, Node: 2}},
		{at(3, 2, 4), plan.Step{Kind: plan.Run, Node: 5}},
		{at(3, 2, 4, 5), plan.Step{Kind: plan.Undo, Node: 3}},
		{at(5, 2, 4), plan.Step{Kind: plan.Commit, Node: 5}},
		{at(6, 1), plan.Step{Kind: plan.Run, Node: 7}},
		{at(6, 7), plan.Step{Kind: plan.Stuck, Node: 6}},
		{at(8), plan.Step{Kind: plan.Commit, Node: 8}},
		{given(0), plan.Step{Kind: plan.Drop, Node: 1}},
		{given(0, 1, 8), plan.Step{Kind: plan.Drop, Node: 6}},
		{given(0, 1, 6, 8), plan.Step{Kind: plan.Abort}},
		{given(1, 2), plan.Step{Kind: plan.Drop, Node: 3}},
		{given(1, 2, 3), plan.Step{Kind: plan.Undo, Node: 1}},
		{given(5), plan.Step{Kind: plan.Undo, Node: 5}},
		{given(8), plan.Step{Kind: plan.Undo, Node: 8}},
		{given(2), plan.Step{Kind: plan.Stuck, Node: 2}},
		{given(7), plan.Step{Kind: plan.Stuck, Node: 7}},
		{given(6, 7), plan.Step{Kind: plan.Stuck, Node: 6}},
	} {
		if x := p.Next(w.s); x != w.want {
			t.Error(w.s, x, "not", w.want)
		}
	}
}

// P26.3: Kept and Failed.
func TestKeptAndFailed(t *testing.T) {
	p := of(t, "a b", "a d c", "a d f", "e") // nodes: 0 root, 1 a, 2 b, 3 d, 4 c, 5 f, 6 e
	told(t, at(1), api.OK)(p.Kept(at(0), 1))
	told(t, at(6), api.OK)(p.Kept(at(0), 6)) // any kid, not the first one alone
	told(t, at(6, 1), api.OK)(p.Kept(at(0, 1), 6))
	told(t, at(3, 2, 6), api.OK)(p.Kept(at(1, 2, 6), 3))
	told(t, given(3, 2, 4, 5, 6), api.OK)(p.Kept(given(1, 2, 4, 5, 6), 3))
	told(t, at(0, 1), api.OK)(p.Failed(at(0), 1))
	told(t, at(0, 1, 6), api.OK)(p.Failed(at(0, 6), 1))
	told(t, at(3, 2, 4, 5, 6), api.OK)(p.Failed(at(3, 2, 4, 6), 5))
	told(t, given(1, 2, 3), api.OK)(p.Failed(given(1, 2), 3))
	for _, w := range []struct {
		s    plan.State
		node int
	}{
		{at(0), 0}, {at(0), 2}, {at(0), 4}, {at(1), 1}, {at(1), 0}, {at(1), 6}, {at(1), 4}, {at(2), 3}, {at(2), 2}, {at(6), 1}, {given(0), 3},
		{at(0, 1), 1}, {at(1, 2, 3), 2}, {at(1, 2, 3), 3}, {at(1, 3), 3}, {given(3, 4), 4},
		{at(0), -1}, {at(0), 7}, {at(0), math.MinInt}, {at(0), math.MaxInt},
	} {
		told(t, plan.State{}, api.ErrState)(p.Kept(w.s, w.node))
		told(t, plan.State{}, api.ErrState)(p.Failed(w.s, w.node))
	}
}

// P26.3: Undone.
func TestUndone(t *testing.T) {
	p := of(t, "a b", "a d c", "a d f", "e") // nodes: 0 root, 1 a, 2 b, 3 d, 4 c, 5 f, 6 e
	told(t, at(0, 1), api.OK)(p.Undone(at(1), 1))
	told(t, at(0, 1, 2, 3), api.OK)(p.Undone(at(1, 2, 3), 1))
	told(t, at(1, 2, 3, 4, 6), api.OK)(p.Undone(at(3, 2, 4, 6), 3))
	told(t, at(3, 4, 5), api.OK)(p.Undone(at(5, 4), 5))
	told(t, given(0, 1, 6), api.OK)(p.Undone(given(6, 1), 6))
	for _, w := range []struct {
		s    plan.State
		node int
	}{
		{at(0), 0}, {given(0), 0}, {at(0), 1}, {at(1), 0}, {at(1), 2}, {at(1, 2), 2}, {at(3), 1}, {at(1), 3},
		{at(2), 2}, {at(4), 4}, {given(4), 4}, // a pivot, a retry
		{at(1), -1}, {at(1), 7}, {at(1), math.MinInt}, {at(1), math.MaxInt},
	} {
		told(t, plan.State{}, api.ErrState)(p.Undone(w.s, w.node))
	}
}

// P26.3: Cancelled.
func TestCancelled(t *testing.T) {
	p := of(t, "a d f", "a d c", "a b", "e f", "e b", "b c") // nodes: 0 root, 1 a, 2 d, 3 f, 4 c, 5 b, 6 e, 7 f, 8 b, 9 b, 10 c
	for _, w := range []struct{ s, want plan.State }{
		{at(0), given(0, 2, 5, 6, 9)},
		{at(0, 1), given(0, 1, 7, 8, 9)},
		{at(0, 6), given(0, 2, 5, 6, 9)},
		{at(0, 1, 6, 9), given(0, 1, 6, 9)},
		{at(1), given(1, 3, 4, 5, 6, 9)},
		{at(1, 2, 5), given(1, 2, 5, 6, 9)},
		{at(1, 2, 4, 5), given(1, 2, 4, 5, 6, 9)}, // one below what failed stays there too
		{at(2), given(2, 4, 5, 6, 9)},
		{at(2, 3, 4), given(2, 3, 4, 5, 6, 9)},
		{at(6), given(6, 1, 8, 9)},
		{given(0), given(0, 2, 5, 6, 9)}, // once more
		{given(0, 1, 6), given(0, 1, 6, 10)},
		{given(1, 2), given(1, 2, 6, 9)},
		{given(2, 3), given(2, 3, 5, 6, 9)}, // what is to be dropped may be any
	} {
		slices.Sort(w.want.Failed)
		told(t, w.want, api.OK)(p.Cancelled(w.s))
	}
	for _, s := range []plan.State{
		at(3), at(4), at(5), at(7), at(10), given(3), given(7), given(10), // a leaf
		at(9), at(9, 10), given(9), // what stays
		at(0, 1, 6), at(1, 2), at(2, 3), at(6, 7), // what runs would stay
	} {
		told(t, plan.State{}, api.ErrPast)(p.Cancelled(s))
	}
	q := of(t, "b a e", "b a c", "b c") // nodes: 0 root, 1 b, 2 a, 3 e, 4 c, 5 c
	for _, s := range []plan.State{at(0), at(1), at(2), at(2, 3, 4), at(3), given(1), given(2)} {
		told(t, plan.State{}, api.ErrPast)(q.Cancelled(s))
	}
	told(t, given(0, 1), api.OK)(q.Cancelled(at(0, 1)))
}

// P26.4
func TestUses(t *testing.T) {
	p := of(t, "a d f", "a d c", "a b", "e f", "e b", "b c") // nodes: 0 root, 1 a (0), 2 d (2), 3 f (1), 4 c (2), 5 b (1), 6 e (0), 7 f (1), 8 b (1), 9 b (1), 10 c (2)
	q := of(t, "b a e", "b a c", "b c")                      // nodes: 0 root, 1 b (1), 2 a (0), 3 e (0), 4 c (2), 5 c (2)
	for _, w := range []struct {
		p    plan.Plan
		s    plan.State
		want string
	}{
		{p, at(0), "[0 1 2]"}, {p, at(0, 1), "[0 1 2]"}, {p, at(0, 1, 9), "[0 1]"}, {p, at(0, 1, 6), "[1 2]"}, {p, at(0, 1, 6, 9), "[]"}, {p, at(0, 1, 6, 10), "[1]"},
		{p, at(1), "[0 1 2]"}, {p, at(1, 6, 9), "[0 1 2]"}, {p, at(1, 2, 6, 9), "[0 1]"}, {p, at(1, 2, 5, 6, 9), "[0]"}, {p, at(1, 2, 5), "[0 1 2]"},
		{p, at(2, 3, 4, 5, 6, 9), "[0 2]"}, {p, at(2, 3, 5, 6, 9), "[0 2]"}, {p, at(2, 4, 5, 6, 9), "[0 1 2]"},
		{p, at(6, 1, 7, 8, 9), "[0]"}, {p, at(6, 1, 8, 9), "[0 1]"},
		{p, at(9), "[2]"}, {p, at(9, 10), "[]"},
		{p, at(3), "[]"}, {p, at(10), "[]"}, {p, given(10), "[]"}, {p, at(7, 1, 9), "[]"}, {p, given(7, 1, 8, 9), "[0 1]"}, {p, given(8, 1, 7, 9), "[]"},
		{p, given(6, 1, 7, 8, 9), "[0]"}, {p, given(0, 2, 5, 6, 9), "[0]"},
		{q, at(0), "[0 1 2]"}, {q, at(0, 1), "[]"}, {q, at(1), "[0 2]"}, {q, at(1, 2), "[2]"}, {q, at(1, 5), "[0 2]"},
		{q, at(2), "[0 2]"}, {q, at(2, 4, 5), "[0]"}, {q, at(2, 3, 4, 5), "[0]"}, {q, at(2, 3, 4), "[0 2]"}, {q, at(5), "[]"}, {q, given(3, 4, 5), "[0]"}, {q, given(3), "[0 2]"}, {q, given(4), "[]"},
	} {
		if u := w.p.Uses(w.s); fmt.Sprint(u) != w.want {
			t.Error(w.s, u, "not", w.want)
		}
	}
}

// P26.5
func TestWitness(t *testing.T) {
	p := of(t, "a d f", "a d c", "a b", "e f", "e b", "b c") // nodes: 0 root, 1 a, 2 d, 3 f, 4 c, 5 b, 6 e, 7 f, 8 b, 9 b, 10 c
	for _, w := range []struct {
		s          plan.State
		leaf, want int
	}{
		{at(0), 3, -1}, {at(0, 1), 3, 1}, {at(0, 1, 2), 3, 2}, {at(0, 1, 3), 3, 3}, {at(0, 1, 3), 4, 1}, {at(0, 1, 3), 5, 1}, {at(0, 1, 2, 3, 4, 5), 5, 5},
		{at(6, 1, 2), 4, 2}, {at(6, 1, 2), 7, -1}, {at(6, 1, 2), 10, -1}, {at(8, 1, 7), 7, 7}, {given(8, 1, 7), 8, -1}, {given(0, 9), 10, 9},
		{at(0, 1, 2, 3), 0, -1}, {at(0, 1, 2, 3), 1, -1}, {at(0, 1, 2, 3), 2, -1}, {at(0, 9), 9, -1}, // no leaf
		{at(0, 1), -1, -1}, {at(0, 1), 11, -1}, {at(0, 1), math.MinInt, -1}, {at(0, 1), math.MaxInt, -1},
	} {
		if n := p.Witness(w.s, w.leaf); n != w.want {
			t.Error(w.s, w.leaf, n, "not", w.want)
		}
	}
}

// Rules 4 and 5: what is handed in is neither changed nor kept, and answers are the caller's own.
func TestMemory(t *testing.T) {
	q := spec(t, "a d c", "a b", "e")
	p, _, _ := plan.Of(q)
	was := fmt.Sprint(p)
	q.Subs[0].Do[0].N, q.Subs[0].Undo[0].N, q.Paths[0][0], q.Paths[1], q.Subs[1].Name = 77, 78, 1, nil, "zz"
	if fmt.Sprint(p) != was {
		t.Error("kept", p)
	}
	s, _ := p.Sub(1)
	s.Do[0].N, s.Undo[0].N = 77, 78
	for _, l := range [][]int{p.Done(at(2)), p.Uses(at(0))} {
		l[0] = 77
		_ = append(l[:1], 78)
	}
	if fmt.Sprint(p) != was || fmt.Sprint(p.Done(at(2)), p.Uses(at(0))) != "[1 2] [0 1 2]" {
		t.Error("changed", p)
	}
	other, _, _ := plan.Of(spec(t, "a d c", "a b", "e"))
	p.Subs[0].Do[0].N, p.Nodes[1].Kids[0] = 79, 4
	if fmt.Sprint(other) != was {
		t.Error("two plans share", other)
	}
}

// Rules 4 and 5 of states, in whose memory there is room for more.
func TestMemoryOfStates(t *testing.T) {
	p := of(t, "a d f", "a d c", "a b", "e f", "e b", "b c")
	for name, call := range map[string]func(plan.State) (plan.State, api.Errno){
		"Kept":      func(s plan.State) (plan.State, api.Errno) { return p.Kept(s, 2) },
		"Failed":    func(s plan.State) (plan.State, api.Errno) { return p.Failed(s, 2) },
		"Undone":    func(s plan.State) (plan.State, api.Errno) { return p.Undone(s, 1) },
		"Cancelled": p.Cancelled,
		"refused":   func(s plan.State) (plan.State, api.Errno) { s.At = 99; return p.Kept(s, 2) },
	} {
		list := append(make([]int, 0, 20), 4, 6, 9)
		s := plan.State{At: 1, Failed: list}
		n, _ := call(s)
		want := fmt.Sprint(n)
		if fmt.Sprint(list, list[:20][3:6]) != "[4 6 9] [0 0 0]" {
			t.Error(name, "wrote into the list", list[:20])
		}
		list[0], list[1] = 77, 78
		if fmt.Sprint(n) != want {
			t.Error(name, "shares the list", n)
		}
		for i := range n.Failed {
			n.Failed[i] = 66
		}
		if fmt.Sprint(list) != "[77 78 9]" {
			t.Error(name, "shares the list", list)
		}
	}
}

// P1: plans that Of did not make.
func TestHandMade(t *testing.T) {
	good := of(t, "a b", "a c")
	deep := trie.Trie{Nodes: make([]trie.Node, 1<<16)}
	long := make([]int, 0, 1<<16)
	for i := range deep.Nodes {
		deep.Nodes[i] = trie.Node{Sub: 0, Up: i - 1, Kids: []int{i + 1}}
		long = append(long, i+1)
	}
	wide := trie.Trie{Nodes: []trie.Node{{Sub: -1, Up: -1, Kids: long}, {Sub: 0, Up: 0, Kids: long}}}
	round := trie.Trie{Nodes: []trie.Node{{Sub: -1, Up: 2, Kids: []int{1}}, {Sub: 3, Up: 0, Kids: []int{2}}, {Sub: 3, Up: 1, Kids: []int{0, 1}}}}
	self := trie.Trie{Nodes: []trie.Node{{Sub: 3, Up: 0, Kids: []int{0}}, {Sub: 3, Up: 1, Kids: []int{1}}}}
	odd := trie.Trie{Nodes: []trie.Node{{Sub: 99, Up: math.MinInt, Kids: []int{math.MaxInt}}, {Sub: -5, Up: 7, Kids: []int{-1}}, {Sub: 0, Up: math.MinInt}}}
	for _, x := range []trie.Trie{{}, {Nodes: make([]trie.Node, 3)}, deep, wide, round, self, odd, good.Trie} {
		for _, q := range []flex.Spec{good.Spec, {}, {Subs: good.Subs[:1]}} {
			p := plan.Plan{Spec: q, Trie: x}
			for _, s := range []plan.State{at(0), at(1), at(2), given(0), given(1), given(2, 1), at(len(x.Nodes) - 1), given(len(x.Nodes)-1, 1), at(0, long[:max(0, len(x.Nodes)-1)]...), at(math.MinInt), at(0, math.MaxInt)} {
				all(p, s)
			}
		}
	}
}

// all asks everything of a plan.
func all(p plan.Plan, s plan.State) {
	p.Next(s)
	p.Uses(s)
	p.May(s)
	p.Done(s)
	p.Cancelled(s)
	for _, n := range append([]int{0, 1, 2, 3}, nowhere...) {
		p.Sub(n)
		p.Kept(s, n)
		p.Failed(s, n)
		p.Undone(s, n)
		p.Witness(s, n)
	}
}
