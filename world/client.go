package world

import (
	"byroad/api"
	"byroad/fault"
	"byroad/ops"
	"byroad/site"
)

// Begin opens a local transaction of a site's client.
func (w *World) Begin(node int) (int, api.Errno) {
	n, err := w.host(node)
	if err != nil {
		return 0, fault.Code(err)
	}
	id, e := n.agent.Site().Begin()
	if e == api.OK {
		n.began(id)
	}
	return id, e
}

// Do does an operation in a client's local transaction, and is what it tells.
func (w *World) Do(node, id int, op api.Op) (int64, api.Errno) {
	s, err := w.client(node, id, op)
	if err != nil {
		return 0, fault.Code(err)
	}
	return s.Do(id, op)
}

// Commit lets all that a client's local transaction did count, for good.
func (w *World) Commit(node, id int) api.Errno {
	s, err := w.client(node, id)
	if err != nil {
		return fault.Code(err)
	}
	return s.Commit(id)
}

// Abort aborts a local transaction, whosever it is.
func (w *World) Abort(node, id int) api.Errno {
	n, err := w.host(node)
	if err != nil {
		return fault.Code(err)
	}
	return n.agent.Site().Abort(id)
}

// host is a site's node that is up.
func (w *World) host(node int) (*node, error) {
	if !w.none() && node == 0 {
		return nil, fault.At(node, fault.New(api.ErrArg))
	}
	return w.awake(node)
}

// client is the site of a local transaction of a client's, who asks operations of it.
func (w *World) client(node, id int, l ...api.Op) (*site.Site, error) {
	n, err := w.host(node)
	if err != nil {
		return nil, err
	}
	if ops.Check(l...) != api.OK {
		return nil, fault.In("operation", fault.New(api.ErrArg))
	}
	if _, began := n.clients[id]; !began {
		return nil, fault.At(id, fault.New(api.ErrNone))
	}
	return n.agent.Site(), nil
}
