package agent_test

import (
	"fmt"
	"slices"
	"strconv"
	"strings"

	"byroad/agent"
	"byroad/api"
	"byroad/mess"
	"byroad/site"
)

// job is a work of the model.
type job struct {
	m     mess.Msg // by which it was asked
	id    int
	told  []int64
	since int64
}

// model is an agent as the chapter's words say it.
type model struct {
	s     *site.Site
	limit int64
	low   int
	jobs  []*job // in the order in which they were asked
}

// anew is the model of an agent that is new.
func anew(s *site.Site, limit int64) *model {
	w := &model{s: s, limit: limit, low: 1}
	for _, r := range s.Rows() {
		if r.Key == "~g" && r.N > 1 {
			w.low = int(r.N)
		}
	}
	return w
}

// mark is a mark's key.
func mark(letter string, m mess.Msg) string {
	return fmt.Sprintf("~%s%d.%d", letter, m.G, m.Node)
}

// has tells whether a mark is made.
func (w *model) has(letter string, m mess.Msg) bool {
	return slices.ContainsFunc(w.s.Rows(), func(r api.Row) bool { return r.Key == mark(letter, m) && r.N != 0 })
}

// ops is all operations of a job.
func (j *job) ops() []api.Op {
	letter := "k"
	if j.m.Kind == mess.Undo {
		letter = "u"
	}
	l := append([]api.Op{{Kind: api.Add, Key: "~t", N: 1}}, j.m.Ops...)
	return append(l, api.Op{Kind: api.Put, Key: mark(letter, j.m), N: 1})
}

// held tells whether a job is a run all of whose operations are done.
func (j *job) held() bool {
	return j.m.Kind == mess.Run && len(j.told) == len(j.ops())
}

// find is a job of that kind, of what m is about.
func (w *model) find(kind int, m mess.Msg) *job {
	for _, j := range w.jobs {
		if j.m.Kind == kind && j.m.G == m.G && j.m.Node == m.Node {
			return j
		}
	}
	return nil
}

// gone takes a job away, and aborts its local transaction, if it is open.
func (w *model) gone(j *job) {
	if slices.Contains(w.s.Opened(), j.id) {
		w.s.Abort(j.id)
	}
	w.jobs = slices.DeleteFunc(w.jobs, func(x *job) bool { return x == j })
}

// sorted is the jobs in the order in which they are told.
func (w *model) sorted() []*job {
	l := slices.Clone(w.jobs)
	slices.SortFunc(l, func(a, b *job) int {
		for _, d := range []int{a.m.G - b.m.G, a.m.Node - b.m.Node} {
			if d != 0 {
				return d
			}
		}
		return a.m.Kind - b.m.Kind
	})
	return l
}

// works is what Works answers.
func (w *model) works() []agent.Work {
	var l []agent.Work
	for _, j := range w.sorted() {
		l = append(l, agent.Work{About: j.m.About, Undo: j.m.Kind == mess.Undo, Id: j.id, Done: len(j.told), Held: j.held()})
	}
	return l
}

// reply is a reply to m.
func reply(kind int, m mess.Msg) mess.Msg {
	r := mess.Msg{Kind: kind, From: m.To}
	r.G, r.Node = m.G, m.Node
	return r
}

// code is a reply to m with its try and an error.
func code(kind int, m mess.Msg, e api.Errno) []mess.Msg {
	r := reply(kind, m)
	r.Try, r.Code = m.Try, e
	return []mess.Msg{r}
}

// toldHeld is that a job is held.
func (j *job) toldHeld() []mess.Msg {
	r := reply(mess.Held, j.m)
	r.Try, r.Ticket, r.Told = j.m.Try, j.told[0], slices.Clone(j.told[1:len(j.told)-1])
	return []mess.Msg{r}
}

// fails is what becomes of a job that fails.
func (w *model) fails(j *job, e api.Errno) []mess.Msg {
	if e == api.ErrNone {
		e = api.ErrKilled
	}
	w.gone(j)
	if j.m.Kind == mess.Run {
		return code(mess.Failed, j.m, e)
	}
	w.jobs = append(w.jobs, &job{m: j.m})
	return nil
}

// goes lets a job go on.
func (w *model) goes(j *job, now int64) []mess.Msg {
	if j.id == 0 {
		id, e := w.s.Begin()
		if e != api.OK {
			return nil
		}
		j.id, j.since = id, now
	}
	for _, op := range j.ops()[len(j.told):] {
		n, e := w.s.Do(j.id, op)
		switch {
		case e == api.OK:
			j.told, j.since = append(j.told, n), now
		case e == api.ErrDown || e == api.ErrBusy && now-j.since < w.limit:
			return nil
		case e == api.ErrBusy:
			return w.fails(j, api.ErrSlow)
		default:
			return w.fails(j, e)
		}
	}
	if j.m.Kind == mess.Run {
		return j.toldHeld()
	}
	switch e := w.s.Commit(j.id); e {
	case api.OK:
		w.gone(j)
		return []mess.Msg{reply(mess.Undone, j.m)}
	case api.ErrDown:
		return nil
	default:
		return w.fails(j, e)
	}
}

// step is what Step does, and what it answers.
func (w *model) step(now int64) []mess.Msg {
	var l []mess.Msg
	for _, j := range w.sorted() {
		if !j.held() {
			l = append(l, w.goes(j, now)...)
		}
	}
	return l
}

// over lets low rise.
func (w *model) over(low int) {
	l := []api.Op{{Kind: api.Put, Key: "~g", N: int64(low)}}
	for _, r := range w.s.Rows() {
		if len(r.Key) < 3 || r.Key[0] != '~' || !strings.ContainsAny(r.Key[1:2], "kxu") {
			continue
		}
		g, err := strconv.Atoi(strings.Split(r.Key[2:], ".")[0])
		if err == nil && g > 0 && g < low && r.Key[2] != '0' {
			l = append(l, api.Op{Kind: api.Del, Key: r.Key})
		}
	}
	if _, _, e := w.s.Alone(l...); e != api.OK {
		return
	}
	w.low = low
	for _, j := range w.sorted() {
		if j.m.G < low {
			w.gone(j)
		}
	}
}

// handle is what Handle does with a request, and what it answers.
func (w *model) handle(m mess.Msg, now int64) []mess.Msg {
	if m.Low > w.low {
		w.over(m.Low)
	}
	if m.G < w.low {
		return nil
	}
	if m.Kind == mess.Undo {
		if w.has("u", m) {
			return []mess.Msg{reply(mess.Undone, m)}
		}
		if !w.has("k", m) || w.find(mess.Undo, m) != nil {
			return nil
		}
		j := &job{m: m}
		w.jobs = append(w.jobs, j)
		return w.goes(j, now)
	}
	if w.has("k", m) {
		return []mess.Msg{reply(mess.Kept, m)}
	}
	if w.has("x", m) {
		return []mess.Msg{reply(mess.Dropped, m)}
	}
	j := w.find(mess.Run, m)
	switch m.Kind {
	case mess.Run:
		return w.run(j, m, now)
	case mess.Keep:
		return w.keep(j, m)
	}
	if j != nil {
		w.gone(j)
	}
	if _, _, e := w.s.Alone(api.Op{Kind: api.Put, Key: mark("x", m), N: 1}); e != api.OK {
		return nil
	}
	return []mess.Msg{reply(mess.Dropped, m)}
}

// run is what a Run does, where j is the run that is there.
func (w *model) run(j *job, m mess.Msg, now int64) []mess.Msg {
	if j != nil && j.m.Try == m.Try {
		if j.held() {
			return j.toldHeld()
		}
		return nil
	}
	if j != nil {
		w.gone(j)
	}
	id, e := w.s.Begin()
	if e != api.OK {
		return code(mess.Failed, m, e)
	}
	j = &job{m: m, id: id, since: now}
	w.jobs = append(w.jobs, j)
	return w.goes(j, now)
}

// keep is what a Keep does, where j is the run that is there.
func (w *model) keep(j *job, m mess.Msg) []mess.Msg {
	if j == nil || j.m.Try != m.Try {
		return code(mess.Lost, m, api.ErrNone)
	}
	if !j.held() {
		return nil
	}
	e := w.s.Commit(j.id)
	if e == api.ErrDown {
		return nil
	}
	w.gone(j)
	switch e {
	case api.OK:
		return []mess.Msg{reply(mess.Kept, m)}
	case api.ErrNone:
		return code(mess.Lost, m, api.ErrKilled)
	}
	return code(mess.Lost, m, e)
}
