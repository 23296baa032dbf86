package book

import (
	"slices"

	"byroad/api"
	"byroad/fault"
	"byroad/plan"
)

// decide writes a record down that may follow; what it says counts once it lasts.
func (b *Book) decide(r rec) error {
	if b.none() {
		return fault.New(api.ErrNil)
	}
	x, err := b.behind(r)
	if err != nil {
		return err
	}
	if e := b.log.Write(r.bytes()); e != api.OK {
		return fault.In("write", fault.New(e))
	}
	b.enter(r.kind, x)
	return nil
}

// behind is a record's transaction as it is behind that record; or why the record may not follow.
func (b *Book) behind(r rec) (work, error) {
	if r.kind == accepted {
		return b.begun(r)
	}
	x, ok := b.active[r.g]
	if !ok {
		return work{}, fault.At(r.g, fault.New(api.ErrNone))
	}
	var e api.Errno
	switch r.kind {
	case cancelled:
		x.State, e = x.plan.Cancelled(x.State)
	case kept:
		x.State, e = x.plan.Kept(x.State, r.node)
	case failed:
		x.State, e = x.plan.Failed(x.State, r.node)
	case undone:
		x.State, e = x.plan.Undone(x.State, r.node)
	case ended:
		x.Txn, e = x.ended()
	}
	return x, fault.At(r.g, fault.New(e))
}

// begun is the transaction that a record accepts, if there is room for it.
func (b *Book) begun(r rec) (work, error) {
	if n := len(b.active); n >= mostActive {
		return work{}, fault.Bound(mostActive, int64(n), fault.New(api.ErrFull))
	}
	if b.next > lastG {
		return work{}, fault.Bound(lastG, int64(b.next), fault.New(api.ErrFull))
	}
	if r.g != b.next {
		return work{}, fault.At(r.g, fault.New(api.ErrArg))
	}
	return work{Txn{G: r.g}, r.plan}, nil
}

// ended is what is remembered of a transaction that may end.
func (x work) ended() (Txn, api.Errno) {
	t := Txn{G: x.G, State: plan.State{At: x.At}}
	switch x.plan.Next(x.State).Kind {
	case plan.Commit:
		t.Outcome = Committed
	case plan.Abort:
		t.Outcome = Aborted
	default:
		return Txn{}, api.ErrState
	}
	return t, api.OK
}

// enter lets a transaction be what it is behind a record of that kind.
func (b *Book) enter(kind int, x work) {
	switch kind {
	case accepted:
		b.next++
		fallthrough
	case cancelled, kept, failed, undone:
		b.active[x.G] = x
	case ended:
		delete(b.active, x.G)
		b.over = append(b.over, x.Txn)
		b.over = slices.Delete(b.over, 0, max(len(b.over)-mostOver, 0))
	}
}
