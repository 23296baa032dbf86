package agent

import (
	"errors"

	"byroad/api"
	"byroad/fault"
	"byroad/mess"
)

// serve does what a request asks of a global transaction that is not over.
func (a *Agent) serve(m mess.Msg, now int64) []mess.Msg {
	if kind := a.fact(m); kind != 0 {
		return []mess.Msg{mess.Answer(m, kind)}
	}
	w := a.works[key{m.G, m.Node, mess.Run}]
	switch m.Kind {
	case mess.Run:
		return a.run(m, w, now)
	case mess.Keep:
		return a.keep(m, w)
	case mess.Drop:
		return a.drop(m, w)
	}
	return a.undo(m, now)
}

// run begins a run in the place of w, or tells of w, if that is the same try.
func (a *Agent) run(m mess.Msg, w *work, now int64) []mess.Msg {
	switch {
	case w != nil && w.Try == m.Try && w.Held:
		return []mess.Msg{a.held(w)}
	case w != nil && w.Try == m.Try:
		return nil
	case w != nil:
		a.leave(w)
		fallthrough
	default:
		return a.start(workOf(m), now)
	}
}

// start begins a run, if its local transaction can begin.
func (a *Agent) start(w *work, now int64) []mess.Msg {
	err := a.begin(w, now)
	switch {
	case err == nil:
		a.works[w.key()] = w
		return a.goOn(w, now)
	case errors.Is(err, fault.New(api.ErrDown)):
		return nil
	}
	return a.fail(w, err)
}

// keep commits the run w, if it is held and of the same try.
func (a *Agent) keep(m mess.Msg, w *work) []mess.Msg {
	if w == nil || w.Try != m.Try {
		return lost(m, fault.New(api.ErrNone))
	}
	if !w.Held {
		return nil
	}
	err := a.commit(w)
	if errors.Is(err, fault.New(api.ErrDown)) {
		return nil // whether it is committed is the tape's to say
	}
	a.forget(w)
	if err != nil {
		return lost(m, err)
	}
	return []mess.Msg{mess.Answer(m, mess.Kept)}
}

// lost is the reply that what was to be kept is not held any more.
func lost(m mess.Msg, err error) []mess.Msg {
	r := mess.Answer(m, mess.Lost)
	r.Code = fault.Code(err)
	return []mess.Msg{r}
}

// drop gives a subtransaction up for good, and its run w.
func (a *Agent) drop(m mess.Msg, w *work) []mess.Msg {
	if w != nil {
		a.leave(w)
	}
	if _, _, e := a.site.Alone(put(DroppedName(m.G, m.Node), 1)); e != api.OK {
		return nil
	}
	return []mess.Msg{mess.Answer(m, mess.Dropped)}
}

// undo begins to take a subtransaction back, if it is kept, and is not taken back yet.
func (a *Agent) undo(m mess.Msg, now int64) []mess.Msg {
	w := workOf(m)
	if a.works[w.key()] != nil || !a.site.Has(KeptName(m.G, m.Node)) {
		return nil
	}
	a.works[w.key()] = w
	return a.goOn(w, now)
}
