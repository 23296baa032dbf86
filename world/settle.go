package world

import (
	"slices"

	"byroad/agent"
	"byroad/api"
	"byroad/fault"
)

const (
	mostRounds    = 4096
	mostDelivered = 4096 // in one round
)

// Settle lets a fair time of so many rounds go by, till no global transaction is active, and is how many rounds there were.
func (w *World) Settle(rounds int) (int, api.Errno) {
	if w.none() {
		return 0, api.ErrNil
	}
	if err := fault.First(within(0, mostRounds, int64(rounds)), w.within(rounds)); err != nil {
		return 0, fault.Code(err)
	}
	w.mend()
	for done := range rounds {
		if l, _ := w.List(); len(l) == 0 {
			return done, api.OK
		}
		w.round()
	}
	return rounds, api.OK
}

// mend lets nothing be in the way any more. A fuse is taken out ahead of a start, lest that be what the power fails in.
func (w *World) mend() {
	for i, n := range w.nodes {
		w.Heal(i)
		n.Fuse(-1)
		if !n.up() {
			w.Start(i)
		}
		n.clear()
	}
	for i := range w.Packets() {
		w.Hold(i, 0)
	}
}

// clear aborts all local transactions at a node that are no agent's work.
func (n *node) clear() {
	s := n.agent.Site()
	works := n.agent.Works()
	for _, id := range s.Opened() {
		if !slices.ContainsFunc(works, func(w agent.Work) bool { return w.Id == id }) {
			s.Abort(id)
		}
	}
}

// round is a tick, and all packets that come then, one behind the other.
func (w *World) round() {
	w.tick()
	for range mostDelivered {
		if w.Packets() == 0 || w.Deliver(0) == api.ErrBusy {
			return
		}
	}
}
