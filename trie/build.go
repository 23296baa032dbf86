package trie

import (
	"slices"

	"byroad/api"
	"byroad/fault"
)

const (
	root = 0
	none = -1
	last = 255 // the greatest element of a path
)

// way is a path.
type way []int

// build is the tree of paths; an error says which path is wrong.
func build(paths [][]int) (Trie, error) {
	if err := check(paths); err != nil {
		return Trie{}, err
	}
	t := Trie{[]Node{{Sub: none, Up: none}}}
	var ends []int
	for _, p := range paths {
		ends = append(ends, t.add(p))
	}
	leaves := t.Leaves()
	for i, end := range ends {
		if i >= len(leaves) || leaves[i] != end {
			return Trie{}, fault.At(i, fault.New(api.ErrPath))
		}
	}
	return t, nil
}

// check tells what is wrong with paths, each one held against itself alone.
func check(paths [][]int) error {
	if len(paths) == 0 {
		return fault.New(api.ErrArg)
	}
	if err := each(paths, way.filled); err != nil {
		return err
	}
	if len(paths) > api.MaxPath {
		return tooLong(len(paths))
	}
	if err := each(paths, way.short); err != nil {
		return err
	}
	return each(paths, way.simple)
}

// each tells of which path something is wrong first.
func each(paths [][]int, ask func(way) error) error {
	for i, p := range paths {
		if err := ask(p); err != nil {
			return fault.At(i, err)
		}
	}
	return nil
}

// filled tells whether a path has elements, and all of them may be.
func (w way) filled() error {
	if len(w) == 0 || slices.Min(w) < 0 || slices.Max(w) > last {
		return fault.New(api.ErrArg)
	}
	return nil
}

// short tells whether a path is not too long.
func (w way) short() error {
	if len(w) > api.MaxPath {
		return tooLong(len(w))
	}
	return nil
}

// simple tells whether a path has no element twice.
func (w way) simple() error {
	for i, sub := range w {
		if slices.Contains(w[:i], sub) {
			return fault.New(api.ErrPath)
		}
	}
	return nil
}

// tooLong is the fault of what has so many, which are more than may be.
func tooLong(n int) error {
	return fault.Bound(api.MaxPath, int64(n), fault.New(api.ErrLong))
}

// add puts a path into the tree, and is the node at its end.
func (t *Trie) add(path []int) int {
	at := root
	for _, sub := range path {
		at = t.kid(at, sub)
	}
	return at
}

// kid is a node's kid with that element. If there is none, it is a new node.
func (t *Trie) kid(node, sub int) int {
	for _, k := range t.Nodes[node].Kids {
		if t.Nodes[k].Sub == sub {
			return k
		}
	}
	k := len(t.Nodes)
	t.Nodes = append(t.Nodes, Node{Sub: sub, Up: node})
	t.Nodes[node].Kids = append(t.Nodes[node].Kids, k)
	return k
}
