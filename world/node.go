package world

import (
	"maps"
	"slices"

	"byroad/agent"
	"byroad/api"
	"byroad/coord"
	"byroad/fault"
	"byroad/mess"
	"byroad/site"
	"byroad/tape"
)

// node is the manager, or a site with its agent. All that it has but its tape is gone when it goes down.
type node struct {
	*tape.Tape
	number  int
	manager *coord.Coord         // of node 0
	agent   *agent.Agent         // of the others
	clients map[int]struct{}     // the local transactions that clients began
	held    map[mess.About]int64 // the tickets of the runs that the agent holds
}

// made is a node that is up, over an empty tape.
func made(number int, c Config) (*node, error) {
	t, e := tape.New(c.Room)
	if e != api.OK {
		return nil, fault.At(number, fault.New(e))
	}
	n := &node{Tape: t, number: number}
	return n, n.open(c)
}

// up tells whether a node is up. Once the power of its tape has failed, it is not.
func (n *node) up() bool {
	return (n.manager != nil || n.agent != nil) && !n.Down()
}

// open lets a node come up over what is on its tape.
func (n *node) open(c Config) error {
	n.clients, n.held = map[int]struct{}{}, map[mess.About]int64{}
	if n.number == 0 {
		var e api.Errno
		n.manager, e = coord.Open(n.Tape, c.Seg, c.Every)
		return fault.At(n.number, fault.New(e))
	}
	s, e := site.Open(n.number-1, n.Tape, c.Seg)
	if e == api.OK {
		n.agent, e = agent.New(n.number, s, c.Limit)
	}
	return fault.At(n.number, fault.New(e))
}

// fall lets a node go down; keeps is how many bytes last of the tails of its tape's segments.
func (n *node) fall(keeps ...int) {
	*n = node{Tape: n.Crash(keeps...), number: n.number}
}

// began remembers a local transaction that a client began; of those that ended the site itself answers that there are none.
func (n *node) began(id int) {
	opened := n.agent.Site().Opened()
	maps.DeleteFunc(n.clients, func(id int, _ struct{}) bool { return !slices.Contains(opened, id) })
	n.clients[id] = struct{}{}
}

// save puts a checkpoint in the place of a node's log.
func (n *node) save() api.Errno {
	if n.manager != nil {
		return n.manager.Save()
	}
	return n.agent.Site().Save()
}

// handle lets a node handle a message, and is what it tells. Of manager and agent one is nil, and tells nothing.
func (n *node) handle(m mess.Msg, now int64) []mess.Msg {
	return append(n.manager.Handle(m, now), n.agent.Handle(m, now)...)
}

// tick lets a node go on, and is what it tells.
func (n *node) tick(now int64) []mess.Msg {
	return append(n.manager.Tick(now), n.agent.Step(now)...)
}

// hold remembers the tickets of what a node tells as held, as long as it holds that.
func (n *node) hold(l []mess.Msg) {
	for _, m := range l {
		if m.Kind == mess.Held {
			n.held[m.About] = m.Ticket
		}
	}
	works := n.agent.Works()
	maps.DeleteFunc(n.held, func(a mess.About, _ int64) bool {
		return !slices.ContainsFunc(works, func(w agent.Work) bool { return w.Held && w.About == a })
	})
}
