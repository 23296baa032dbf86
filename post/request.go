package post

import (
	"slices"

	"byroad/api"
	"byroad/fault"
	"byroad/mess"
)

// request is a message that is sent till it is answered.
type request struct {
	mess.Msg
	sent bool
	last int64 // when; it says nothing, if it was never sent
}

// Fit tells whether a reply fits a request.
func Fit(q, r mess.Msg) bool {
	if !mess.May(q) || !mess.May(r) || q.G != r.G || q.Node != r.Node || q.To != r.From {
		return false
	}
	switch q.Kind {
	case mess.Run, mess.Keep:
		if ofTry(q.Kind, r.Kind) {
			return q.Try == r.Try
		}
		fallthrough
	case mess.Drop:
		return r.Kind == mess.Kept || r.Kind == mess.Dropped
	case mess.Undo:
		return r.Kind == mess.Undone
	}
	return false
}

// ofTry tells whether a reply of some kind says what became of one try, and may so answer a request of some kind.
func ofTry(request, reply int) bool {
	switch reply {
	case mess.Held, mess.Failed:
		return request == mess.Run
	case mess.Lost:
		return request == mess.Keep
	}
	return false
}

// asks tells whether a message is a request that may be.
func asks(m mess.Msg) error {
	switch m.Kind {
	case mess.Run, mess.Keep, mess.Drop, mess.Undo:
		if mess.May(m) {
			return nil
		}
	}
	return fault.In("request", fault.New(api.ErrArg))
}

// due tells whether a request is to be sent now.
func (q *request) due(now, every int64) bool {
	return !q.sent || now-q.last >= every
}

// send is what is sent of a request now.
func (q *request) send(now int64) mess.Msg {
	q.sent, q.last = true, now
	return clone(q.Msg)
}

// clone is the same message with lists of its own.
func clone(m mess.Msg) mess.Msg {
	m.Told, m.Ops = slices.Clone(m.Told), slices.Clone(m.Ops)
	return m
}
