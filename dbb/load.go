package dbb

import (
	"cmp"
	"slices"

	"byroad/api"
	"byroad/cells"
	"byroad/fault"
	"byroad/octet"
)

// entry is what a log's record or its state says: a number, and changes by rising keys.
type entry struct {
	n       int
	changes []cells.Change
}

// load finds the rows again from the log: those of its checkpoint, and what its records make of them.
func (d *Db) load() error {
	if err := d.restore(d.log.State()); err != nil {
		return fault.In("state", err)
	}
	l, err := entries(d.log.Recs())
	if err != nil {
		return fault.In("records", err)
	}
	// Transactions count by their numbers, in whatever order they were committed.
	slices.SortStableFunc(l, func(a, b entry) int { return cmp.Compare(a.n, b.n) })
	for _, x := range l {
		if err := d.redo(x); err != nil {
			return fault.At(x.n, err)
		}
		d.next = max(d.next, x.n+1)
	}
	return nil
}

// restore reads a checkpoint's state; without one there are no rows, and the first transaction is next.
func (d *Db) restore(state []byte) error {
	if len(state) == 0 {
		return nil
	}
	x, err := decode(state, lastTxn+1)
	if err != nil {
		return err
	}
	for _, c := range x.changes {
		if !c.There {
			return fault.In(c.Key, fault.New(api.ErrForm)) // that makes no row
		}
	}
	d.next = x.n
	return d.redo(x)
}

// redo makes the changes of an entry, if there are not too many rows by them.
func (d *Db) redo(x entry) error {
	if d.base.Apply(x.changes...) != api.OK {
		return fault.Bound(api.MaxRows, int64(d.base.Len()), fault.New(api.ErrForm))
	}
	return nil
}

// entries is what the records of a log say.
func entries(recs [][]byte) ([]entry, error) {
	var l []entry
	for i, b := range recs {
		x, err := decode(b, lastTxn)
		if err != nil {
			return nil, fault.At(i, err)
		}
		l = append(l, x)
	}
	return l, nil
}

// decode is the entry whose bytes these are, of a number from 1 to most.
func decode(b []byte, most uint64) (entry, error) {
	r := octet.Of(b)
	n := r.Nat() // 0, if it can't be read
	if n < 1 || n > most {
		return entry{}, fault.In("number", fault.New(api.ErrForm))
	}
	l, e := cells.Decode(b[len(b)-r.Left():])
	if e != api.OK {
		return entry{}, fault.In("changes", fault.New(e))
	}
	for i, c := range l {
		if i > 0 && c.Key <= l[i-1].Key {
			return entry{}, fault.In(c.Key, fault.At(i, fault.New(api.ErrForm)))
		}
	}
	return entry{int(n), l}, nil
}
