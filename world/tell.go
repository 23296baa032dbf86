package world

import (
	"slices"

	"byroad/agent"
	"byroad/api"
	"byroad/coord"
	"byroad/mess"
	"byroad/order"
	"byroad/site"
)

// mostBound is the greatest number that Bound tells.
const mostBound = 4096

// Now is what time it is.
func (w *World) Now() int64 {
	if w.none() {
		return 0
	}
	return w.now
}

// Up tells whether a node is up.
func (w *World) Up(node int) bool {
	_, err := w.awake(node)
	return err == nil
}

// Site is a node's site, if it is up.
func (w *World) Site(node int) *site.Site {
	return w.Agent(node).Site()
}

// Agent is a node's agent, if it is up.
func (w *World) Agent(node int) *agent.Agent {
	n, err := w.awake(node)
	if err != nil {
		return nil
	}
	return n.agent
}

// Coord is the manager, if it is up.
func (w *World) Coord() *coord.Coord {
	n, err := w.awake(0)
	if err != nil {
		return nil
	}
	return n.manager
}

// Packets is how many packets there are.
func (w *World) Packets() int {
	return w.way().Len()
}

// Packet is the message of packet i.
func (w *World) Packet(i int) (mess.Msg, bool) {
	m, e := mess.Decode(w.way().Packet(i))
	return m, e == api.OK
}

// Free is how many bytes there is room for on a node's tape.
func (w *World) Free(node int) int {
	n, err := w.find(node)
	if err != nil {
		return 0
	}
	return n.Free()
}

// Fails is the tries that agents told as failed or lost, in order.
func (w *World) Fails() []Fail {
	if w.none() {
		return nil
	}
	return slices.Clone(w.fails)
}

// Tickets is those of all that agents told as committed when they did so, in order.
func (w *World) Tickets() []order.Ticket {
	if w.none() {
		return nil
	}
	return slices.Clone(w.tickets)
}

// Bound is within how many rounds of a fair time all that is active is over.
func (w *World) Bound() int {
	c := w.Coord()
	if c == nil {
		return 0
	}
	l := c.List()
	nodes := 0
	for _, g := range l {
		nodes = max(nodes, c.Size(g))
	}
	return min((len(l)+1)*(10+4*nodes)*int(w.config.Every+2), mostBound)
}
