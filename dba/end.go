package dba

import (
	"errors"
	"slices"

	"byroad/api"
	"byroad/fault"
	"byroad/octet"
	"byroad/undo"
)

// commit ends a transaction: it is committed, or, if there is no room to write that down, aborted.
func (d *Db) commit(id int) error {
	x, err := d.find(id)
	if err != nil {
		return err
	}
	err = fault.At(id, d.seal(x))
	switch {
	case err == nil:
		d.serial = append(d.serial, id)
		d.leave(x)
	case errors.Is(err, fault.New(api.ErrDown)):
		// Whether it is committed is the tape's to say: it stays as it is.
	default:
		d.abort(x)
	}
	return err
}

// seal writes down that a transaction is committed, and lets that last. Nothing has to last of one without changes.
func (d *Db) seal(x *txn) error {
	if len(x.changes) == 0 {
		return nil
	}
	if err := d.write(undo.Rec{Kind: undo.Commit, Txn: x.id}); err != nil {
		return err
	}
	return fault.In("sync", fault.New(d.log.Sync()))
}

// abort ends a transaction by taking back its changes; the records of that may be written later.
func (d *Db) abort(x *txn) {
	backs := x.backs()
	for _, r := range backs {
		d.hold(r.Change)
	}
	if len(backs) > 0 {
		d.owed = append(append(d.owed, backs...), undo.Rec{Kind: undo.Abort, Txn: x.id})
	}
	d.write()
	d.leave(x)
}

// leave lets go all that a transaction has.
func (d *Db) leave(x *txn) {
	d.locks.Release(x.id)
	delete(d.txns, x.id)
}

// save puts a checkpoint in the place of the log, and of what was owed to it.
func (d *Db) save() error {
	if n := len(d.txns); n > 0 {
		return fault.Bound(0, int64(n), fault.New(api.ErrState))
	}
	state := octet.Seq(octet.Nat(uint64(d.next)), d.store.Bytes())
	if e := d.log.Save(state); e != api.OK {
		return fault.In("save", fault.New(e))
	}
	d.owed = nil
	return nil
}

// write puts records behind the log, those that are owed ahead of them, all or none.
func (d *Db) write(l ...undo.Rec) error {
	var recs [][]byte
	for _, r := range slices.Concat(d.owed, l) {
		recs = append(recs, undo.Encode(r))
	}
	if e := d.log.Append(recs...); e != api.OK {
		return fault.In("write", fault.New(e))
	}
	d.owed = nil
	return nil
}
