package coord

import (
	"byroad/api"
	"byroad/mess"
)

// lastTry is the greatest number that a try may have.
const lastTry = 1 << 20

// turn is which try a global transaction is at, and till when it waits ahead of it.
type turn struct {
	try  int
	till int64
}

// turn is which try a global transaction is at.
func (c *Coord) turn(g int) turn {
	if t, later := c.turns[g]; later {
		return t
	}
	return turn{try: 1}
}

// answered lets the reply m to the request q count.
func (c *Coord) answered(q, m mess.Msg, now int64) {
	switch m.Kind {
	case mess.Held:
		c.keep(q)
	case mess.Failed, mess.Lost:
		if c.sure(q) {
			c.again(q.G, now)
		} else {
			c.drop(q)
		}
	default:
		if c.decide(q, m.Kind) == api.OK {
			c.settled(q.G)
		}
	}
}

// decide writes down what a reply of some kind says became of what q asked.
func (c *Coord) decide(q mess.Msg, kind int) api.Errno {
	switch kind {
	case mess.Kept:
		return c.book.Kept(q.G, q.Node)
	case mess.Dropped:
		return c.book.Failed(q.G, q.Node)
	}
	return c.book.Undone(q.G, q.Node)
}

// again lets a global transaction wait for its next try.
func (c *Coord) again(g int, now int64) {
	try := c.turn(g).try%lastTry + 1
	c.settled(g)
	c.turns[g] = turn{try, now + c.every}
}

// settled takes a global transaction's request away; what is next is at its first try, and does not wait.
func (c *Coord) settled(g int) {
	c.box.Done(g)
	delete(c.turns, g)
}

// sure tells whether what q asks succeeds if it is tried often enough, and is to be.
func (c *Coord) sure(q mess.Msg) bool {
	x, _ := c.book.Txn(q.G)
	p, _ := c.book.Plan(q.G)
	sub, _ := p.Sub(q.Node)
	return sub.Sure() && !x.Cancel
}

// keep asks to commit what is held for the request q.
func (c *Coord) keep(q mess.Msg) {
	c.ask(mess.Msg{Kind: mess.Keep, To: q.To, About: q.About})
}

// drop asks to give up for good what q asks.
func (c *Coord) drop(q mess.Msg) {
	c.ask(mess.Msg{Kind: mess.Drop, To: q.To, About: mess.About{G: q.G, Node: q.Node}})
}
