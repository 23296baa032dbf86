package book

import (
	"byroad/api"
	"byroad/fault"
	"byroad/octet"
)

// lastAt is the greatest number of a node that is remembered of a transaction which is over.
const lastAt = 255

// load finds the transactions again from the log: those of its checkpoint, and what its records make of them.
func (b *Book) load() error {
	if err := b.restore(b.log.State()); err != nil {
		return fault.In("state", err)
	}
	for i, bytes := range b.log.Recs() {
		if err := b.redo(bytes); err != nil {
			return fault.In("records", fault.At(i, err))
		}
	}
	return nil
}

// redo lets a record count that stands in the log, if it may follow.
func (b *Book) redo(bytes []byte) error {
	r, err := record(bytes)
	if err != nil {
		return err
	}
	x, err := b.behind(r)
	if err != nil {
		return fault.In("follows", fault.New(api.ErrForm))
	}
	b.enter(r.kind, x)
	return nil
}

// state is the bytes of a checkpoint.
func (b *Book) state() []byte {
	all := nats(b.next, len(b.active))
	for _, g := range b.Active() {
		all = append(all, b.active[g].bytes()...)
	}
	all = append(all, nats(len(b.over))...)
	for _, t := range b.over {
		all = append(all, nats(t.G, t.Outcome, t.At)...)
	}
	return all
}

// bytes is the bytes of an active transaction.
func (x work) bytes() []byte {
	return octet.Seq(nats(x.G), spec(x.plan), nats(x.At, len(x.Failed)), nats(x.Failed...), octet.Yes(x.Cancel))
}

// restore reads a checkpoint's state; without one nothing was accepted as yet.
func (b *Book) restore(state []byte) error {
	if len(state) == 0 {
		return nil
	}
	in := octet.Of(state)
	if b.next = small(in); b.next < 1 || b.next > lastG+1 {
		return fault.In("next", fault.New(api.ErrForm))
	}
	if err := b.readActive(in); err != nil {
		return fault.In("active", err)
	}
	if err := b.readOver(in); err != nil {
		return fault.In("over", err)
	}
	return end(in)
}

// readActive reads the active transactions.
func (b *Book) readActive(in *octet.In) error {
	many, err := upto(in, mostActive)
	last := 0
	for i := range many {
		x, err := readWork(in)
		if err == nil && (x.G <= last || x.G >= b.next) {
			err = fault.New(api.ErrForm)
		}
		if err != nil {
			return fault.At(i, err)
		}
		b.active[x.G] = x
		last = x.G
	}
	return err
}

// readOver reads those that are over.
func (b *Book) readOver(in *octet.In) error {
	many, err := upto(in, mostOver)
	for i := range many {
		t := Txn{G: small(in), Outcome: small(in)}
		t.At = small(in)
		if t.G < 1 || t.G >= b.next || t.Outcome != Committed && t.Outcome != Aborted || t.At > lastAt {
			return fault.At(i, fault.New(api.ErrForm))
		}
		b.over = append(b.over, t)
	}
	return err
}

// readWork reads an active transaction.
func readWork(in *octet.In) (work, error) {
	x := work{Txn: Txn{G: small(in)}}
	var err error
	if x.plan, err = readPlan(in); err != nil {
		return work{}, err
	}
	x.At = small(in)
	many, err := upto(in, len(x.plan.Nodes))
	for range many {
		x.Failed = append(x.Failed, small(in))
	}
	x.Cancel = in.Yes()
	if err == nil && !x.plan.May(x.State) {
		err = fault.In("state", fault.New(api.ErrForm))
	}
	return x, err
}

// upto reads how many there are of something, most at most.
func upto(in *octet.In, most int) (int, error) {
	n := small(in)
	if n > most {
		return 0, fault.Bound(int64(most), int64(n), fault.New(api.ErrForm))
	}
	return n, nil
}
