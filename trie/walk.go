package trie

import (
	"iter"
	"slices"
)

// Both walks end, and no call is nested in another one, in any tree, also in one that was made by hand: there nodes may go round in a circle, or be deeper than calls can be.

// upwards yields a node and those above it, up to the root.
func (t Trie) upwards(node int) iter.Seq[int] {
	return func(yield func(int) bool) {
		at := node
		for range t.Nodes {
			if !t.has(at) || !yield(at) {
				return
			}
			at = t.Nodes[at].Up
		}
	}
}

// downwards yields a node and all below it, in order, each once.
func (t Trie) downwards(node int) iter.Seq[int] {
	return func(yield func(int) bool) {
		met := make([]bool, len(t.Nodes))
		next := []int{node} // the last one first
		for len(next) > 0 {
			at := next[len(next)-1]
			next = next[:len(next)-1]
			if !t.has(at) || met[at] {
				continue
			}
			if !yield(at) {
				return
			}
			met[at] = true
			for _, kid := range slices.Backward(t.Nodes[at].Kids) {
				next = append(next, kid)
			}
		}
	}
}
