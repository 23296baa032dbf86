package agent

import (
	"errors"
	"slices"

	"byroad/api"
	"byroad/fault"
	"byroad/mess"
)

// work is a run or an undo, with all that it takes to go on.
type work struct {
	Work
	ops   []api.Op // a ticket's, those that were asked, a mark's
	told  []int64  // what those that are done told
	since int64    // when it began to wait
}

// workOf is what a request asks for, a Run or an Undo.
func workOf(m mess.Msg) *work {
	w := &work{Work: Work{About: m.About, Undo: m.Kind == mess.Undo}}
	mark := KeptName(m.G, m.Node)
	if w.Undo {
		mark = UndoneName(m.G, m.Node)
	}
	take := []api.Op{{Kind: api.Add, Key: system + ticket, N: 1}}
	w.ops = slices.Concat(take, m.Ops, []api.Op{put(mark, 1)})
	return w
}

// key is by what the work is found.
func (w *work) key() key {
	if w.Undo {
		return key{w.G, w.Node, mess.Undo}
	}
	return key{w.G, w.Node, mess.Run}
}

// goOn lets a work go on as far as it can, and is what it tells.
func (a *Agent) goOn(w *work, now int64) []mess.Msg {
	if a.begin(w, now) != nil {
		return nil // once more at the next Step
	}
	err := a.do(w, now)
	switch {
	case err == nil && !w.Undo:
		w.Held = true
		return []mess.Msg{a.held(w)}
	case err == nil:
		return a.seal(w, now)
	}
	return a.halt(w, now, err)
}

// begin opens a work's local transaction, if it has none.
func (a *Agent) begin(w *work, now int64) error {
	if w.Id != 0 {
		return nil
	}
	id, e := a.site.Begin()
	if e == api.OK {
		w.Id, w.since = id, now
	}
	return fault.In("begin", fault.New(e))
}

// do does the operations that are not done yet, as far as they can be.
func (a *Agent) do(w *work, now int64) error {
	for _, op := range w.ops[w.Done:] {
		n, e := a.site.Do(w.Id, op)
		if e != api.OK {
			return fault.At(w.Done, fault.In(op.Key, ended(e)))
		}
		w.told = append(w.told, n)
		w.Done, w.since = len(w.told), now
	}
	return nil
}

// seal commits an undo whose operations are all done.
func (a *Agent) seal(w *work, now int64) []mess.Msg {
	if err := a.commit(w); err != nil {
		return a.halt(w, now, err)
	}
	a.forget(w)
	return []mess.Msg{a.tell(w, mess.Undone)}
}

// commit commits a work's local transaction.
func (a *Agent) commit(w *work) error {
	return fault.In("commit", ended(a.site.Commit(w.Id)))
}

// halt is what becomes of a work that can't go on, and what it tells.
func (a *Agent) halt(w *work, now int64, err error) []mess.Msg {
	waits := now - w.since
	switch busy := errors.Is(err, fault.New(api.ErrBusy)); {
	case errors.Is(err, fault.New(api.ErrDown)), busy && waits < a.limit:
		return nil
	case busy:
		err = fault.Bound(a.limit, waits, fault.New(api.ErrSlow))
		fallthrough
	default:
		return a.fail(w, err)
	}
}

// fail gives a run up; an undo begins anew at the next Step, for it has to come about at last.
func (a *Agent) fail(w *work, err error) []mess.Msg {
	a.abort(w)
	if w.Undo {
		w.Id, w.Done, w.told = 0, 0, nil
		return nil
	}
	a.forget(w)
	m := a.tell(w, mess.Failed)
	m.Code = fault.Code(err)
	return []mess.Msg{m}
}

// leave lets a work be gone, and what it did be taken back.
func (a *Agent) leave(w *work) {
	a.abort(w)
	a.forget(w)
}

// abort aborts a work's local transaction, if it is open yet.
func (a *Agent) abort(w *work) {
	a.site.Abort(w.Id)
}

// forget lets a work be gone.
func (a *Agent) forget(w *work) {
	delete(a.works, w.key())
}

// held is what a run tells that is held.
func (a *Agent) held(w *work) mess.Msg {
	m := a.tell(w, mess.Held)
	last := len(w.told) - 1
	m.Ticket, m.Told = w.told[0], slices.Clone(w.told[1:last])
	return m
}

// tell is a reply of some kind to what a work was asked by.
func (a *Agent) tell(w *work, kind int) mess.Msg {
	return mess.Answer(mess.Msg{To: a.n, About: w.About}, kind)
}

// ended is the error of a call in a local transaction. One that is not open any more was aborted by somebody else.
func ended(e api.Errno) error {
	if e == api.ErrNone {
		e = api.ErrKilled
	}
	return fault.New(e)
}
