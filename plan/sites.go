package plan

import (
	"slices"

	"byroad/sound"
)

// Uses is the sites that may be used still, rising.
func (p Plan) Uses(s State) []int {
	if !p.May(s) || p.Leaf(s.At) && !s.Cancel {
		return nil
	}
	// What was reached is taken back up to its anchor at most: all below that may be come to, or is to be taken back.
	var l []int
	for _, n := range p.left(s, sound.Anchor(p.Spec, p.Trie, s.At)) {
		if sub, ok := p.sub(n); ok {
			l = append(l, sub.Site)
		}
	}
	slices.Sort(l)
	return slices.Compact(l)
}

// Witness is the last node on a leaf's path that failed, or was taken back; -1, if there is none.
func (p Plan) Witness(s State, leaf int) int {
	if !p.May(s) || !p.Leaf(leaf) {
		return none
	}
	for _, n := range p.Above(leaf) {
		if s.failed(n) {
			return n
		}
	}
	return none
}

// left is the nodes below one, but those that failed or were taken back, and all below those.
func (p Plan) left(s State, node int) []int {
	var l []int
	lost := make([]bool, len(p.Nodes))
	for _, n := range p.Below(node) {
		up := p.Nodes[n].Up
		lost[n] = s.failed(n) || p.has(up) && lost[up]
		if n != node && !lost[n] {
			l = append(l, n)
		}
	}
	return l
}
