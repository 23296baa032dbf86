package trie_test

import (
	"fmt"
	"math"
	"slices"
	"testing"

	"byroad/api"
	"byroad/trie"
)

// built is the tree of paths that must be right.
func built(t *testing.T, paths ...[]int) trie.Trie {
	t.Helper()
	x, e := trie.Build(paths...)
	if e != api.OK || len(x.Nodes) == 0 {
		t.Fatal("Build", paths, x, e)
	}
	return x
}

// refused fails the test, if paths are not answered with that error.
func refused(t *testing.T, want api.Errno, paths ...[]int) {
	t.Helper()
	if x, e := trie.Build(paths...); e != want || len(x.Nodes) != 0 {
		t.Error("Build", paths, x, e, "not", want)
	}
}

// some is so many elements, from 0 on.
func some(n int) []int {
	var l []int
	for i := range n {
		l = append(l, i)
	}
	return l
}

// apart is so many paths that share nothing, each of so many elements.
func apart(n, long int) [][]int {
	var l [][]int
	for i := range n {
		p := some(long)
		for k := range p {
			p[k] = (p[k] + i*long) % 256
		}
		l = append(l, p)
	}
	return l
}

// The document's example.
func TestDocExample(t *testing.T) {
	x := built(t, []int{0, 1}, []int{0, 2}, []int{3})
	want := []trie.Node{{Sub: -1, Up: -1, Kids: []int{1, 4}}, {Sub: 0, Up: 0, Kids: []int{2, 3}}, {Sub: 1, Up: 1}, {Sub: 2, Up: 1}, {Sub: 3, Up: 0}}
	if fmt.Sprint(x.Nodes) != fmt.Sprint(want) {
		t.Error(x.Nodes)
	}
	if fmt.Sprint(x.Leaves(), x.Meet(2, 3), x.Above(3)) != "[2 3 4] 1 [3 1 0]" {
		t.Error(x.Leaves(), x.Meet(2, 3), x.Above(3))
	}
}

// P24.1: ErrArg.
func TestBuildArg(t *testing.T) {
	refused(t, api.ErrArg)
	refused(t, api.ErrArg, [][]int{}...)
	refused(t, api.ErrArg, nil, nil)
	for _, wrong := range [][]int{nil, {}, {-1}, {256}, {0, -1}, {0, 1, 256}, {math.MinInt}, {math.MaxInt}, {1 << 32}, {7, 7, -1}, append(some(8), -1), append(some(100), 256)} {
		refused(t, api.ErrArg, wrong)
		refused(t, api.ErrArg, wrong, []int{0})
		refused(t, api.ErrArg, []int{0}, []int{1}, wrong)
		refused(t, api.ErrArg, []int{0}, []int{0}, wrong)      // ahead of ErrPath
		refused(t, api.ErrArg, some(9), wrong, []int{0, 0})    // ahead of ErrLong
		refused(t, api.ErrArg, append(apart(8, 1), wrong)...)  // and of too many
		refused(t, api.ErrArg, append(apart(20, 9), wrong)...) // and of both
	}
	built(t, []int{0, 255}, []int{255, 0})
}

// P24.1: ErrLong.
func TestBuildLong(t *testing.T) {
	for n := 1; n < 30; n++ {
		if n <= 8 {
			built(t, apart(n, 1)...)
			built(t, apart(n, 8)...)
			built(t, some(n))
			built(t, []int{9}, some(n))
			continue
		}
		refused(t, api.ErrLong, apart(n, 1)...)
		refused(t, api.ErrLong, slices.Repeat([][]int{{0}}, n)...)    // ahead of ErrPath
		refused(t, api.ErrLong, slices.Repeat([][]int{{0, 0}}, n)...) // likewise
		refused(t, api.ErrLong, some(n))
		refused(t, api.ErrLong, []int{9}, some(n))
		refused(t, api.ErrLong, some(n), some(n))
		refused(t, api.ErrLong, []int{7, 7}, some(n))
		refused(t, api.ErrLong, slices.Repeat([]int{0}, n))
		refused(t, api.ErrLong, apart(n, n)...)
	}
	refused(t, api.ErrLong, slices.Repeat([]int{0}, 1<<20))
	refused(t, api.ErrLong, slices.Repeat([][]int{{0}}, 1<<20)...)
}

// P24.1: ErrPath.
func TestBuildPath(t *testing.T) {
	for _, paths := range [][][]int{
		{{0, 0}}, {{0, 1, 0}}, {{1, 2, 3, 4, 5, 6, 7, 1}}, {{255, 255}}, {{1}, {2, 2}}, {{2, 2}, {1}}, // twice
		{{0}, {0}}, {{0, 1}, {0, 1}}, {{0, 1}, {2}, {0, 1}}, {some(8), some(8)}, // the same
		{{0}, {0, 1}}, {{0, 1}, {0}}, {{0, 1, 2}, {0, 1}}, {{0, 1, 2}, {3}, {0}}, {{3}, {0, 1}, {0}}, {some(7), some(8)}, // the beginning
		{{0, 1}, {2}, {0, 3}}, {{0, 1}, {1, 0}, {0, 2}}, {{0, 1, 2}, {0, 3}, {0, 1, 4}}, {{5}, {0, 1, 2}, {0, 3}, {4}, {0, 1, 6}}, {{0, 1}, {2, 0}, {2, 1}, {0, 3}}, // not side by side
	} {
		refused(t, api.ErrPath, paths...)
	}
	for _, paths := range [][][]int{
		{{0}}, {{0, 1}, {1, 0}}, {{1, 0}, {0, 1}}, {{0, 1}, {0, 2}}, {{0, 2}, {0, 1}}, {{0, 1, 2}, {0, 2, 1}}, {{3, 0}, {2, 0}, {1, 0}}, {{0, 1, 2}, {0, 1, 3}, {0, 4}, {5}}, {{5}, {0, 4}, {0, 1, 2}, {0, 1, 3}},
	} {
		built(t, paths...)
	}
}

// P24.2: a node's number that is none.
func TestNoNode(t *testing.T) {
	x := built(t, []int{0, 1}, []int{0, 2}, []int{3})
	for _, x := range []trie.Trie{x, {}, {Nodes: []trie.Node{}}} {
		for _, n := range []int{math.MinInt, -2, -1, len(x.Nodes), len(x.Nodes) + 1, 255, 1 << 32, math.MaxInt} {
			if len(x.Path(n)) != 0 || len(x.Below(n)) != 0 || len(x.Above(n)) != 0 || x.Leaf(n) || x.Meet(n, n) != -1 || x.Prefers(n, n) {
				t.Error("the node", n, "is there")
			}
			for _, k := range []int{-1, 0, 1, 2, 3, 4} {
				if x.Meet(n, k) != -1 || x.Meet(k, n) != -1 || x.Prefers(n, k) || x.Prefers(k, n) {
					t.Error("the node", n, "meets", k)
				}
			}
		}
	}
}

// The rules: what is handed in is neither changed nor kept; no list that is answered is seen in another one.
func TestListsShareNothing(t *testing.T) {
	paths := [][]int{{0, 1, 2}, {0, 1, 3}, {0, 4}, {5, 0}}
	want := fmt.Sprint(paths)
	x := built(t, paths...)
	all := fmt.Sprint(x)
	if fmt.Sprint(paths) != want {
		t.Error("changed", paths)
	}
	for _, p := range paths {
		clear(p)
	}
	if fmt.Sprint(x) != all {
		t.Error("kept", x)
	}
	for name, tell := range map[string]func() []int{
		"Path":   func() []int { return x.Path(3) },
		"Leaves": func() []int { return x.Leaves() },
		"Below":  func() []int { return x.Below(1) },
		"Above":  func() []int { return x.Above(3) },
	} {
		first := tell()
		was := fmt.Sprint(first)
		clear(first)
		_ = append(first, 7)
		if fmt.Sprint(tell()) != was || fmt.Sprint(x) != all {
			t.Error(name, tell(), x)
		}
	}
	for _, n := range x.Nodes {
		_ = append(n.Kids, 9)
	}
	_ = append(x.Nodes, trie.Node{})
	if fmt.Sprint(x) != all {
		t.Error("kids are shared", x)
	}
	other := built(t, []int{0, 1, 2})
	clear(other.Nodes[0].Kids)
	if y := built(t, []int{0, 1, 2}); y.Nodes[0].Kids[0] != 1 {
		t.Error("trees are shared", y)
	}
}

// asks asks all of a tree that may have been made by hand: nothing is promised but that each call ends.
func asks(x trie.Trie, nodes ...int) {
	x.Leaves()
	for _, a := range nodes {
		x.Path(a)
		x.Below(a)
		x.Above(a)
		x.Leaf(a)
		for _, b := range nodes {
			x.Meet(a, b)
			x.Prefers(a, b)
		}
	}
}

// P1: of trees that Build did not make.
func TestByHand(t *testing.T) {
	numbers := []int{math.MinInt, -1, 0, 1, 2, 3, 4, math.MaxInt}
	for _, x := range []trie.Trie{
		{},
		{Nodes: []trie.Node{{}}},
		{Nodes: []trie.Node{{Up: 0, Kids: []int{0}}}},
		{Nodes: []trie.Node{{Up: -1, Kids: []int{0, 0, 0, -1, 1, 99, math.MinInt, math.MaxInt}}}},
		{Nodes: []trie.Node{{Up: 1, Kids: []int{1}}, {Up: 0, Kids: []int{0}}}},
		{Nodes: []trie.Node{{Up: math.MaxInt}, {Up: math.MinInt}, {Up: 2, Kids: []int{2}}, {Up: 0}}},
		{Nodes: []trie.Node{{Up: -1, Kids: []int{1, 2}}, {Up: 3, Kids: []int{2, 3}}, {Up: 1, Kids: []int{3}}, {Up: 2, Kids: []int{1}}}},
	} {
		asks(x, numbers...)
	}
	const many = 1 << 20
	deep, wide := trie.Trie{Nodes: make([]trie.Node, many)}, trie.Trie{Nodes: make([]trie.Node, 100)}
	for i := range deep.Nodes {
		deep.Nodes[i] = trie.Node{Sub: 1, Up: i - 1, Kids: []int{i + 1}}
	}
	for i := range wide.Nodes { // as many ways down as there are lists of bits
		wide.Nodes[i] = trie.Node{Sub: 1, Up: i - 1, Kids: []int{i + 1, i + 1, i, 0}}
	}
	asks(deep, 0, many-1)
	asks(wide, 0, 99)
}
