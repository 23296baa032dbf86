package world

import (
	"byroad/api"
	"byroad/fault"
	"byroad/mess"
	"byroad/net"
	"byroad/order"
)

// mostTicks is how many ticks there may be at once.
const mostTicks = 1000

// Tick lets time go on by n ticks.
func (w *World) Tick(n int) api.Errno {
	if w.none() {
		return api.ErrNil
	}
	if err := fault.First(within(1, mostTicks, int64(n)), w.within(n)); err != nil {
		return fault.Code(err)
	}
	for range n {
		w.tick()
	}
	return api.OK
}

// Deliver lets packet i come.
func (w *World) Deliver(i int) api.Errno {
	m, e := w.way().Deliver(i)
	if e != api.OK {
		return e
	}
	n, err := w.awake(m.To)
	if err != nil {
		return fault.Code(err)
	}
	w.hand(n, m)
	return api.OK
}

// Drop loses packet i.
func (w *World) Drop(i int) api.Errno { return w.way().Drop(i) }

// Twice doubles packet i.
func (w *World) Twice(i int) api.Errno { return w.way().Twice(i) }

// Move puts packet i at another place.
func (w *World) Move(i, to int) api.Errno { return w.way().Move(i, to) }

// Hold lets packet i wait so many ticks.
func (w *World) Hold(i, ticks int) api.Errno { return w.way().Hold(i, ticks) }

// Spoil turns one bit of packet i.
func (w *World) Spoil(i, bit int) api.Errno { return w.way().Spoil(i, bit) }

// Inject sends a message that nobody told, and is how many were not lost.
func (w *World) Inject(m mess.Msg) int { return w.way().Send(m) }

// Part cuts a site off.
func (w *World) Part(node int) api.Errno { return w.way().Part(node) }

// Heal lets a site be cut off no more.
func (w *World) Heal(node int) api.Errno { return w.way().Heal(node) }

// Crash lets a node lose its power; keeps is how many bytes last of the tails of its tape's segments.
func (w *World) Crash(node int, keeps ...int) api.Errno {
	n, err := w.find(node)
	if err == nil && !n.up() && !n.Down() {
		err = fault.At(node, fault.New(api.ErrDown))
	}
	if err == nil {
		n.fall(keeps...)
	}
	return fault.Code(err)
}

// Start lets a node that is down come up.
func (w *World) Start(node int) api.Errno {
	n, err := w.find(node)
	if err == nil && n.up() {
		err = fault.At(node, fault.New(api.ErrThere))
	}
	if err != nil {
		return fault.Code(err)
	}
	if n.Down() {
		n.fall()
	}
	return fault.Code(n.open(w.config))
}

// Fuse lets the power of a node fail behind k changes more of its tape; never, if k is below 0.
func (w *World) Fuse(node, k int) api.Errno {
	n, err := w.find(node)
	if err == nil {
		n.Fuse(k)
	}
	return fault.Code(err)
}

// Room gives a node's tape another room.
func (w *World) Room(node, room int) api.Errno {
	n, err := w.find(node)
	if err != nil {
		return fault.Code(err)
	}
	return n.Room(room)
}

// Save lets a node put a checkpoint in the place of its log.
func (w *World) Save(node int) api.Errno {
	n, err := w.awake(node)
	if err != nil {
		return fault.Code(err)
	}
	return n.save()
}

// way is the net. A nil one answers what a nil world has to.
func (w *World) way() *net.Net {
	if w.none() {
		return nil
	}
	return w.net
}

// within tells whether so many ticks more are in time.
func (w *World) within(n int) error {
	return fault.In("time", within(0, api.MaxTime-w.now, int64(n)))
}

// tick lets time go on by one tick.
func (w *World) tick() {
	w.now++
	w.net.Tick()
	for _, n := range w.nodes {
		if n.up() {
			w.tell(n, n.tick(w.now))
		}
	}
}

// hand lets a node handle a message.
func (w *World) hand(n *node, m mess.Msg) {
	ticket, held := n.held[m.About]
	l := n.handle(m, w.now)
	if held && m.Kind == mess.Keep && says(mess.Kept, l) {
		w.tickets = append(w.tickets, order.Ticket{G: m.G, Site: n.number - 1, N: ticket})
	}
	w.tell(n, l)
}

// tell sends what a node tells, and remembers what is to be known of it.
func (w *World) tell(n *node, l []mess.Msg) {
	for _, m := range l {
		switch m.Kind {
		case mess.Failed, mess.Lost:
			w.fails = append(w.fails, Fail{m.G, m.Node, m.Code})
		}
	}
	n.hold(l)
	w.net.Send(l...)
}

// says tells whether one of messages is of a kind.
func says(kind int, l []mess.Msg) bool {
	for _, m := range l {
		if m.Kind == kind {
			return true
		}
	}
	return false
}
