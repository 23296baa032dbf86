package dbc

import (
	"errors"

	"byroad/api"
	"byroad/fault"
)

// commit ends a transaction: it is committed, or, if it is stale, or what it changed can't be written down, it counts for nothing.
func (d *Db) commit(id int) error {
	x, err := d.find(id)
	if err != nil {
		return err
	}
	err = fault.At(id, d.seal(id, x))
	switch {
	case errors.Is(err, fault.New(api.ErrDown)):
		// Whether it is committed is the tape's to say: it stays as it is.
	case err == nil && len(x.side) > 0:
		d.past.Add(x.writes()...)
		fallthrough
	case err == nil:
		d.serial = append(d.serial, id)
		fallthrough
	default:
		d.leave(id)
	}
	return err
}

// seal looks back at what a transaction has read, and lets last what it changed. Nothing has to last of one without changes.
func (d *Db) seal(id int, x *txn) error {
	if e := d.past.Check(x.since, x.reads()...); e != api.OK {
		return fault.In("reads", fault.New(e))
	}
	if len(x.side) == 0 {
		return nil
	}
	return fault.In("changes", fault.New(d.rows.Put(id, x.changes()...)))
}

// leave ends a transaction: what nobody may look back at any more is old.
func (d *Db) leave(id int) {
	delete(d.txns, id)
	d.forget()
}

// forget forgets the commits that are behind nobody's beginning.
func (d *Db) forget() {
	since := d.past.Now()
	for _, x := range d.txns {
		since = min(since, x.since)
	}
	d.past.Forget(since + 1)
}
