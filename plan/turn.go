package plan

import (
	"slices"

	"byroad/api"
	"byroad/fault"
	"byroad/sound"
)

// Kept is the state behind a subtransaction that is committed.
func (p Plan) Kept(s State, node int) (State, api.Errno) {
	return p.turn(s, p.asked(s, node), func(n *State) { n.At = node })
}

// Failed is the state behind a subtransaction that failed.
func (p Plan) Failed(s State, node int) (State, api.Errno) {
	return p.turn(s, p.asked(s, node), func(n *State) { n.Failed = with(n.Failed, node) })
}

// Undone is the state behind a subtransaction that is taken back.
func (p Plan) Undone(s State, node int) (State, api.Errno) {
	return p.turn(s, p.last(s, node), func(n *State) {
		n.At, n.Failed = p.Nodes[node].Up, with(n.Failed, node)
	})
}

// Cancelled is the state of what is to be given up.
func (p Plan) Cancelled(s State) (State, api.Errno) {
	return p.turn(s, p.past(s), func(n *State) {
		n.Cancel, n.Failed = true, with(n.Failed, p.others(s)...)
	})
}

// turn is what a call answers that would turn a state into another one; wrong is what is wrong with that, where the state may be.
func (p Plan) turn(s State, wrong error, into func(*State)) (State, api.Errno) {
	err := fault.First(when(!p.May(s), api.ErrArg), wrong)
	s.Failed = slices.Clone(s.Failed)
	switch {
	case fault.Is(err, api.ErrArg):
		return s, api.ErrArg
	case err != nil:
		return State{}, fault.Code(err)
	}
	into(&s)
	return s, api.OK
}

// asked tells what is wrong, if a node is not one that may run, or be dropped.
func (p Plan) asked(s State, node int) error {
	return fault.At(node, when(!slices.Contains(p.kids(s.At), node) || s.failed(node), api.ErrState))
}

// last tells what is wrong, if a node is not one that may be taken back.
func (p Plan) last(s State, node int) error {
	return fault.At(node, when(node != s.At || !p.undoable(node), api.ErrState))
}

// past tells what is wrong, if it is too late to give all up.
func (p Plan) past(s State) error {
	next := p.Next(s)
	stays := sound.Anchor(p.Spec, p.Trie, s.At) != root
	under := next.Kind == Run && !p.undoable(next.Node) // it may be committed already
	return fault.At(s.At, when(stays || p.Leaf(s.At) || under, api.ErrPast))
}

// others is the nodes that are not gone to any more, once all is given up: but the one that may be under way only such as are committed are left.
func (p Plan) others(s State) []int {
	left := p.open(s)
	l := slices.Clone(p.kids(left))
	for _, n := range p.Above(s.At) {
		for _, k := range p.kids(n) {
			if k != left {
				l = append(l, k)
			}
		}
		left = n
	}
	return l
}

// with is a rising list of nodes with others put in, in memory of its own.
func with(l []int, nodes ...int) []int {
	all := slices.Concat(l, nodes)
	slices.Sort(all)
	return slices.Compact(all)
}

// when is the fault of a number, if something is wrong.
func when(wrong bool, e api.Errno) error {
	if !wrong {
		return nil
	}
	return fault.New(e)
}
