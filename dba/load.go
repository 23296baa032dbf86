package dba

import (
	"byroad/api"
	"byroad/cells"
	"byroad/fault"
	"byroad/octet"
	"byroad/page"
	"byroad/undo"
)

// load finds the rows again from the log: those of its checkpoint, and what its records make of them.
func (d *Db) load() error {
	if err := d.restore(d.log.State()); err != nil {
		return fault.In("state", err)
	}
	l, err := records(d.log.Recs())
	if err != nil {
		return fault.In("records", err)
	}
	return fault.In("replay", d.replay(l))
}

// restore reads a checkpoint's state; without one there are no rows, and the first transaction is next.
func (d *Db) restore(state []byte) error {
	if len(state) == 0 {
		var e api.Errno
		d.next = 1
		d.store, e = page.New(pageRows)
		return fault.New(e)
	}
	r := octet.Of(state)
	next := r.Nat() // 0, if it can't be read
	if next < 1 || next > lastTxn+1 {
		return fault.In("next", fault.New(api.ErrForm))
	}
	var e api.Errno
	d.next = int(next)
	d.store, e = page.Load(state[len(state)-r.Left():], pageRows)
	return fault.In("rows", fault.New(e))
}

// records is the records that stand in a log.
func records(l [][]byte) ([]undo.Rec, error) {
	var all []undo.Rec
	for i, b := range l {
		r, e := undo.Decode(b)
		if e != api.OK {
			return nil, fault.At(i, fault.New(e))
		}
		all = append(all, r)
	}
	return all, nil
}

// replay makes of the rows what records make of them, and owes what is to be written behind these.
func (d *Db) replay(l []undo.Rec) error {
	base := d.all()
	c, more, e := undo.Replay(base, l...)
	if e != api.OK {
		return fault.New(e)
	}
	d.apply(cells.New(base...).Diff(c))
	for _, r := range l {
		d.next = max(d.next, r.Txn+1)
	}
	d.owed = more
	d.write()
	return nil
}

// apply makes changes to the rows. What is to hold nothing goes first, lest there be too many rows on the way.
func (d *Db) apply(l []cells.Change) {
	for _, there := range []bool{false, true} {
		for _, c := range l {
			if c.There == there {
				d.hold(c)
			}
		}
	}
}
