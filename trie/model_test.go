package trie_test

import (
	"fmt"
	"math/rand"
	"slices"
	"testing"

	"byroad/api"
	"byroad/trie"
)

// model is a tree as the beginnings of paths, each at its node's number.
type model [][]int

// modelOf is the model of paths.
func modelOf(paths [][]int) model {
	m := model{{}}
	for _, p := range paths {
		for n := range p {
			if m.at(p[:n+1]) < 0 {
				m = append(m, p[:n+1])
			}
		}
	}
	return m
}

// at is the node that stands for a beginning; -1, if there is none.
func (m model) at(beginning []int) int {
	return slices.IndexFunc(m, func(p []int) bool { return slices.Equal(p, beginning) })
}

// up is the node ahead of one.
func (m model) up(node int) int {
	if node == 0 {
		return -1
	}
	return m.at(m[node][:len(m[node])-1])
}

// kids is the nodes behind one.
func (m model) kids(node int) []int {
	var l []int
	for k := range m {
		if m.up(k) == node {
			l = append(l, k)
		}
	}
	return l
}

// below is a node and all below it, in order.
func (m model) below(node int) []int {
	l := []int{node}
	for _, k := range m.kids(node) {
		l = append(l, m.below(k)...)
	}
	return l
}

// leaves is the leaves, in order.
func (m model) leaves() []int {
	return slices.DeleteFunc(m.below(0), func(n int) bool { return len(m.kids(n)) > 0 })
}

// shared is how much of their beginnings two paths share.
func shared(a, b []int) []int {
	n := 0
	for n < len(a) && n < len(b) && a[n] == b[n] {
		n++
	}
	return a[:n]
}

// meant is the error of paths that are neither empty nor too long, of elements that may be.
func meant(paths [][]int) api.Errno {
	for i, p := range paths {
		for k, x := range p {
			if slices.Contains(p[k+1:], x) {
				return api.ErrPath
			}
		}
		for _, q := range paths[i+1:] {
			if s := shared(p, q); len(s) == len(p) || len(s) == len(q) {
				return api.ErrPath
			}
		}
	}
	// Those that share a beginning stand side by side, if each shares with the next one what it shares with any later one, at least.
	for i := range paths {
		for k := i + 1; k < len(paths); k++ {
			for between := i + 1; between < k; between++ {
				if len(shared(paths[i], paths[between])) < len(shared(paths[i], paths[k])) {
					return api.ErrPath
				}
			}
		}
	}
	return api.OK
}

// compare fails the test, if Build does not answer what the model does; it tells whether there is a tree.
func compare(t *testing.T, paths [][]int) (trie.Trie, model, bool) {
	t.Helper()
	x, e := trie.Build(paths...)
	if want := meant(paths); e != want {
		t.Fatal("Build", paths, x, e, "not", want)
	}
	if e != api.OK {
		if len(x.Nodes) != 0 {
			t.Fatal("Build", paths, x, e)
		}
		return x, nil, false
	}
	m := modelOf(paths)
	if len(x.Nodes) != len(m) {
		t.Fatal("Build", paths, x)
	}
	for n, node := range x.Nodes {
		sub := -1
		if n > 0 {
			sub = m[n][len(m[n])-1]
		}
		if node.Sub != sub || node.Up != m.up(n) || !slices.Equal(node.Kids, m.kids(n)) {
			t.Fatal("Build", paths, x, "the node", n)
		}
	}
	return x, m, true
}

// whole fails the test, if any call of a tree does not answer what its model does.
func whole(t *testing.T, paths [][]int, x trie.Trie, m model) {
	t.Helper()
	order := m.below(0)
	if !slices.Equal(x.Leaves(), m.leaves()) {
		t.Fatal(paths, "Leaves", x.Leaves())
	}
	for a := range m {
		var above []int
		for n := a; n >= 0; n = m.up(n) {
			above = append(above, n)
		}
		if !slices.Equal(x.Path(a), m[a]) || !slices.Equal(x.Above(a), above) || !slices.Equal(x.Below(a), m.below(a)) || x.Leaf(a) != (len(m.kids(a)) == 0) {
			t.Fatal(paths, a, "Path", x.Path(a), "Above", x.Above(a), "Below", x.Below(a), "Leaf", x.Leaf(a))
		}
		for b := range m {
			s := shared(m[a], m[b])
			ahead := slices.Index(order, a) < slices.Index(order, b) && len(s) < len(m[a])
			if x.Meet(a, b) != m.at(s) || x.Prefers(a, b) != ahead {
				t.Fatal(paths, a, b, "Meet", x.Meet(a, b), "Prefers", x.Prefers(a, b))
			}
		}
	}
	follows(t, paths, x)
}

// follows fails the test, if P24.3 and P24.4 do not hold.
func follows(t *testing.T, paths [][]int, x trie.Trie) {
	t.Helper()
	leaves := x.Leaves()
	for i, a := range leaves {
		if !slices.Equal(x.Path(a), paths[i]) {
			t.Fatal(paths, "the leaf", i, x.Path(a))
		}
		for k, b := range leaves {
			if x.Prefers(a, b) != (i < k) || i != k && !slices.Equal(x.Path(x.Meet(a, b)), shared(paths[i], paths[k])) {
				t.Fatal(paths, "the leaves", i, k, x.Meet(a, b), x.Prefers(a, b))
			}
		}
	}
	if len(leaves) != len(paths) {
		t.Fatal(paths, leaves)
	}
}

// all is all paths of up to so many elements, each below most.
func all(long, most int) [][]int {
	var l [][]int
	if long == 0 {
		return l
	}
	for x := range most {
		l = append(l, []int{x})
		for _, p := range all(long-1, most) {
			l = append(l, append([]int{x}, p...))
		}
	}
	return l
}

// P24.1 to P24.4: all short lists of short paths.
func TestAllShort(t *testing.T) {
	n := 0
	try := func(paths ...[]int) {
		if x, m, ok := compare(t, paths); ok {
			n++
			whole(t, paths, x, m)
		}
	}
	for _, a := range all(3, 3) {
		try(a)
		for _, b := range all(3, 3) {
			try(a, b)
			for _, c := range all(2, 3) {
				try(a, b, c)
				try(a, c, b)
				try(c, a, b)
			}
		}
	}
	small := [][]int{{0, 1}, {0, 2}, {1, 0}, {1, 2}, {0}, {0, 1, 2}, {0, 1, 3}}
	for _, a := range small {
		for _, b := range small {
			for _, c := range small {
				for _, d := range small {
					try(a, b, c, d)
				}
			}
		}
	}
	if n < 1000 {
		t.Error("too few trees:", n)
	}
}

// grow is paths of any tree, each behind the elements ahead.
func grow(r *rand.Rand, ahead []int, many *int) [][]int {
	var l [][]int
	kids := 1 + r.Intn(3)
	for _, x := range r.Perm(256) {
		if slices.Contains(ahead, x) || kids == 0 || *many == 0 {
			continue
		}
		kids--
		p := append(slices.Clone(ahead), x)
		if len(p) == api.MaxPath || r.Intn(3) == 0 {
			*many--
			l = append(l, p)
			continue
		}
		l = append(l, grow(r, p, many)...)
	}
	return l
}

// P24.1 to P24.4: any trees, and what is made of their paths by moving one.
func TestAnyTree(t *testing.T) {
	r := rand.New(rand.NewSource(24))
	trees, most := 0, 0
	for range 3000 {
		many := api.MaxPath
		paths := grow(r, nil, &many)
		x, m, ok := compare(t, paths)
		if !ok {
			t.Fatal("no tree", paths)
		}
		whole(t, paths, x, m)
		most = max(most, len(paths))
		moved := slices.Clone(paths)
		i, k := r.Intn(len(paths)), r.Intn(len(paths))
		moved[i], moved[k] = moved[k], moved[i]
		if r.Intn(2) == 0 {
			moved[i] = moved[i][:1+r.Intn(len(moved[i]))]
		}
		if x, m, ok := compare(t, moved); ok {
			trees++
			whole(t, moved, x, m)
		}
		if fmt.Sprint(modelOf(paths)) != fmt.Sprint(m) {
			t.Fatal("changed", paths)
		}
	}
	if trees < 300 || most != api.MaxPath {
		t.Error("too few trees:", trees, most)
	}
}
