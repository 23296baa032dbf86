package coord_test

import (
	"fmt"
	"slices"

	"byroad/api"
	"byroad/book"
	"byroad/flex"
	"byroad/mess"
	"byroad/order"
	"byroad/plan"
	"byroad/post"
)

// job is an active global transaction of the model.
type job struct {
	g    int
	p    plan.Plan
	s    plan.State
	try  int
	till int64
	q    *mess.Msg // its request
	sent bool
	last int64
}

// model is a manager as the chapter's words say it.
type model struct {
	every int64
	full  bool // the tape has no room
	next  int
	jobs  []*job // rising
	over  []book.Txn
	trail []*model // what lasts behind each decision of the call that is under way
}

// lasting is what a manager is that is opened again.
func (m *model) lasting() *model {
	c := &model{every: m.every, next: m.next, over: slices.Clone(m.over)}
	for _, j := range m.jobs {
		c.jobs = append(c.jobs, &job{g: j.g, p: j.p, s: j.s, try: 1})
	}
	return c
}

// decided notes what lasts now; false, if nothing can be written down.
func (m *model) decided(change func()) bool {
	if m.full {
		return false
	}
	change()
	m.trail = append(m.trail, m.lasting())
	return true
}

// low is the least active one's number, without one next.
func (m *model) low() int {
	if len(m.jobs) == 0 {
		return m.next
	}
	return m.jobs[0].g
}

// find is an active one.
func (m *model) find(g int) *job {
	for _, j := range m.jobs {
		if j.g == g {
			return j
		}
	}
	return nil
}

// submit is what Submit does, and what it answers.
func (m *model) submit(text string) (int, int, api.Errno) {
	p, line, e := flex.Parse(text)
	if e != api.OK {
		return 0, line, e
	}
	x, place, e := plan.Of(p)
	switch {
	case e != api.OK:
		return 0, place, e
	case len(m.jobs) == 16 || !m.decided(func() {
		m.jobs = append(m.jobs, &job{g: m.next, p: x, try: 1})
		m.next++
	}):
		return 0, 0, api.ErrFull
	}
	return m.next - 1, 0, api.OK
}

// ask is the request of some kind of a node.
func (m *model) ask(j *job, kind, node int) {
	sub, _ := j.p.Sub(node)
	q := mess.Msg{Kind: kind, To: sub.Site + 1, About: mess.About{G: j.g, Node: node}, Low: m.low()}
	switch kind {
	case mess.Run:
		q.Ops, q.Try = sub.Do, j.try
	case mess.Keep:
		q.Try = j.try
	case mess.Undo:
		q.Ops, q.Try = sub.Undo, 1
	}
	j.q, j.sent = &q, false
}

// cancel is what Cancel does, and what it answers.
func (m *model) cancel(g int) api.Errno {
	j := m.find(g)
	if j == nil {
		return api.ErrNone
	}
	s, e := j.p.Cancelled(j.s)
	if e != api.OK {
		return e
	}
	if !m.decided(func() { j.s = s }) {
		return api.ErrFull
	}
	if j.q != nil && (j.q.Kind == mess.Run || j.q.Kind == mess.Keep) {
		m.ask(j, mess.Drop, j.q.Node)
	}
	return api.OK
}

// end is an end, if it can be written down.
func (m *model) end(j *job, outcome int) bool {
	return m.decided(func() {
		m.jobs = slices.DeleteFunc(m.jobs, func(x *job) bool { return x == j })
		m.over = append(m.over, book.Txn{G: j.g, State: plan.State{At: j.s.At}, Outcome: outcome})
		m.over = m.over[max(0, len(m.over)-64):]
	})
}

// first tells whether no lesser one may use a site still.
func (m *model) first(g, site int) bool {
	return !slices.ContainsFunc(m.jobs, func(j *job) bool { return j.g < g && slices.Contains(j.p.Uses(j.s), site) })
}

// goes lets one go on, and tells whether it ended.
func (m *model) goes(j *job, now int64) bool {
	if j.q != nil || j.till > now {
		return false
	}
	next := j.p.Next(j.s)
	sub, _ := j.p.Sub(next.Node)
	switch next.Kind {
	case plan.Commit:
		return m.end(j, book.Committed)
	case plan.Abort:
		return m.end(j, book.Aborted)
	case plan.Drop:
		m.ask(j, mess.Drop, next.Node)
	case plan.Undo:
		m.ask(j, mess.Undo, next.Node)
	case plan.Run:
		if m.first(j.g, sub.Site) {
			m.ask(j, mess.Run, next.Node)
		}
	}
	return false
}

// tick is what Tick does, and what it sends.
func (m *model) tick(now int64) []mess.Msg {
	if now < 0 || now > maxTime {
		return nil
	}
	for ended := true; ended; {
		ended = false
		for _, j := range slices.Clone(m.jobs) {
			ended = m.goes(j, now) || ended
		}
	}
	var l []mess.Msg
	for _, j := range m.jobs {
		if j.q != nil && (!j.sent || now-j.last >= m.every) {
			j.sent, j.last = true, now
			q := *j.q
			q.Low = m.low()
			l = append(l, q)
		}
	}
	return l
}

// handle is what Handle does, and what it sends.
func (m *model) handle(r mess.Msg, now int64) []mess.Msg {
	j := m.find(r.G)
	if now < 0 || now > maxTime || j == nil || j.q == nil || !post.Fit(*j.q, r) {
		return nil
	}
	sub, _ := j.p.Sub(r.Node)
	decide := j.p.Undone
	switch r.Kind {
	case mess.Held:
		m.ask(j, mess.Keep, r.Node)
		return m.tick(now)
	case mess.Failed, mess.Lost:
		if sub.Type == flex.Retry || sub.Type == flex.Both {
			j.q, j.till = nil, now+m.every
			j.try++
		} else {
			m.ask(j, mess.Drop, r.Node)
		}
		return m.tick(now)
	case mess.Kept:
		decide = j.p.Kept
	case mess.Dropped:
		decide = j.p.Failed
	}
	if s, e := decide(j.s, r.Node); e == api.OK && m.decided(func() { j.s = s }) {
		j.q, j.try, j.till = nil, 1, 0
	}
	return m.tick(now)
}

// status is what Status answers.
func (m *model) status(g int) (book.Txn, api.Errno) {
	if j := m.find(g); j != nil {
		return book.Txn{G: g, State: j.s}, api.OK
	}
	for _, x := range m.over {
		if x.G == g {
			return x, api.OK
		}
	}
	return book.Txn{}, api.ErrNone
}

// lasts is what lasting tells of a manager, by the model.
func (m *model) lasts() string {
	var list []int
	var users []order.User
	for _, j := range m.jobs {
		list = append(list, j.g)
		users = append(users, order.User{G: j.g, Sites: j.p.Uses(j.s)})
	}
	s := fmt.Sprintln(m.next, m.low(), list, users)
	for g := -1; g <= m.next; g++ {
		x, e := m.status(g)
		size := 0
		if j := m.find(g); j != nil {
			size = len(j.p.Nodes)
		}
		s += fmt.Sprintln(g, x, e, size)
	}
	return s
}
