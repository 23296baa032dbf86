package coord

import (
	"byroad/api"
	"byroad/book"
	"byroad/mess"
	"byroad/order"
	"byroad/plan"
)

// work is an active global transaction, and its plan.
type work struct {
	book.Txn
	plan plan.Plan
}

// works is the active global transactions, rising.
func (c *Coord) works() []work {
	var l []work
	for _, g := range c.List() {
		x, _ := c.book.Txn(g)
		p, _ := c.book.Plan(g)
		l = append(l, work{x, p})
	}
	return l
}

// users is which sites global transactions may use still.
func users(l []work) []order.User {
	var all []order.User
	for _, x := range l {
		all = append(all, order.User{G: x.G, Sites: x.plan.Uses(x.State)})
	}
	return all
}

// goAll lets all go on that may, one by one, and is how many of them ended. Who ends used no site any more ahead of that, so the users stay as they were.
func (c *Coord) goAll(now int64) int {
	l := c.works()
	all := users(l)
	ended := 0
	for _, x := range l {
		if c.free(x.G, now) && c.goOn(x, all) {
			ended++
		}
	}
	return ended
}

// free tells whether a global transaction has no request, and does not wait.
func (c *Coord) free(g int, now int64) bool {
	_, asks := c.box.Get(g)
	return !asks && c.turn(g).till <= now
}

// goOn does what a global transaction's plan says is next, and tells whether that was its end.
func (c *Coord) goOn(x work, all []order.User) bool {
	next := x.plan.Next(x.State)
	sub, _ := x.plan.Sub(next.Node)
	switch next.Kind {
	case plan.Commit, plan.Abort:
		return c.book.End(x.G) == api.OK
	case plan.Run:
		if !order.May(x.G, sub.Site, all...) {
			return false
		}
		fallthrough
	case plan.Drop, plan.Undo:
		c.ask(c.request(x, next))
	}
	return false
}

// request is what is to be asked for a step of a global transaction.
func (c *Coord) request(x work, next plan.Step) mess.Msg {
	sub, _ := x.plan.Sub(next.Node)
	m := mess.Msg{To: sub.Site + 1, About: mess.About{G: x.G, Node: next.Node}}
	switch next.Kind {
	case plan.Run:
		m.Kind, m.Try, m.Ops = mess.Run, c.turn(x.G).try, sub.Do
	case plan.Undo:
		m.Kind, m.Try, m.Ops = mess.Undo, 1, sub.Undo
	case plan.Drop:
		m.Kind = mess.Drop
	}
	return m
}

// ask makes a request the one of its global transaction; it was never sent.
func (c *Coord) ask(m mess.Msg) {
	m.Low = c.book.Low()
	c.box.Put(m, 0)
}
