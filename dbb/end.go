package dbb

import (
	"errors"
	"slices"

	"byroad/api"
	"byroad/cells"
	"byroad/chain"
	"byroad/fault"
	"byroad/octet"
)

// commit ends a transaction: it is committed, or, if what it changed can't be written down, aborted.
func (d *Db) commit(id int) error {
	x, err := d.find(id)
	if err != nil {
		return err
	}
	err = fault.At(id, d.seal(x))
	switch {
	case err == nil:
		for _, key := range x.keys {
			d.chains[key].Commit(id)
		}
		i, _ := slices.BinarySearch(d.serial, id)
		d.serial = slices.Insert(d.serial, i, id)
		d.leave(x)
	case errors.Is(err, fault.New(api.ErrDown)):
		// Whether it is committed is the tape's to say: it stays as it is.
	default:
		d.abort(x)
	}
	return err
}

// seal writes down what a transaction changed, and lets that last. Nothing has to last of one that wrote nothing.
func (d *Db) seal(x *txn) error {
	if len(x.keys) == 0 {
		return nil
	}
	var l []cells.Change
	for _, key := range x.keys {
		n, there, _ := d.chains[key].Read(x.id) // its own version
		l = append(l, cells.Change{Key: key, N: n, There: there})
	}
	return fault.In("write", fault.New(d.log.Write(record(x.id, l...))))
}

// abort ends a transaction, and its versions with it.
func (d *Db) abort(x *txn) {
	for _, key := range x.keys {
		d.chains[key].Abort(x.id)
	}
	d.leave(x)
}

// leave ends a transaction: what nobody can read any more is old.
func (d *Db) leave(x *txn) {
	delete(d.txns, x.id)
	d.prune()
}

// prune takes away what no transaction reads that is open, or will be.
func (d *Db) prune() {
	below := d.next
	for _, id := range d.Opened() {
		below = min(below, id)
	}
	for _, key := range d.keys() {
		c := d.chains[key]
		c.Prune(below)
		if idle(c, below) {
			delete(d.chains, key)
		}
	}
}

// idle tells whether a chain says no more than that there is nothing.
func idle(c *chain.Chain, below int) bool {
	l := c.Versions()
	return len(l) == 1 && !l[0].There && l[0].Read < below
}

// save puts a checkpoint in the place of the log.
func (d *Db) save() error {
	if n := len(d.txns); n > 0 {
		return fault.Bound(0, int64(n), fault.New(api.ErrState))
	}
	return fault.In("save", fault.New(d.log.Save(d.state())))
}

// state is the bytes of a checkpoint: next, and the changes that make the rows.
func (d *Db) state() []byte {
	return record(d.next, cells.New().Diff(cells.New(d.Rows()...))...)
}

// record is the bytes of a number and of changes.
func record(n int, l ...cells.Change) []byte {
	return octet.Seq(octet.Nat(uint64(n)), cells.Encode(l...))
}
