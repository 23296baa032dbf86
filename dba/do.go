package dba

import (
	"errors"

	"byroad/api"
	"byroad/cells"
	"byroad/fault"
	"byroad/ops"
	"byroad/undo"
	"byroad/wait"
)

// try does an operation, if its key's lock can be had at once, or behind the end of victims.
func (d *Db) try(id int, op api.Op) (int64, error) {
	x, err := d.find(id)
	if err != nil {
		return 0, err
	}
	if !ops.May(op) {
		return 0, fault.In(op.Key, fault.New(api.ErrArg))
	}
	err = d.claim(id, op)
	switch {
	case errors.Is(err, fault.New(api.ErrBusy)):
		if err := d.untangle(id); err != nil {
			return 0, fault.In(op.Key, err)
		}
		fallthrough
	case err == nil:
		return d.do(x, op)
	}
	return 0, err
}

// claim asks for the lock of an operation's key.
func (d *Db) claim(id int, op api.Op) error {
	return fault.In(op.Key, fault.New(d.locks.Ask(id, op.Key, op.Kind != api.Get)))
}

// untangle aborts victims, till one that waits has what it waits for; an error, if it has to wait, or is a victim itself.
func (d *Db) untangle(id int) error {
	for {
		v, there := wait.Victim(d.locks.Edges()...)
		if !there {
			return fault.New(api.ErrBusy)
		}
		d.abort(d.txns[v])
		if v == id {
			return fault.At(v, fault.New(api.ErrVictim))
		}
		if _, waits := d.locks.Waits(id); !waits {
			return nil
		}
	}
}

// do does an operation whose key is locked.
func (d *Db) do(x *txn, op api.Op) (int64, error) {
	was, had := d.store.Get(op.Key)
	n, there, told, e := ops.Eval(op, was, had)
	if e != api.OK {
		return 0, fault.In(op.Key, fault.New(e))
	}
	if n == was && there == had {
		return told, nil
	}
	held := cells.Change{Key: op.Key, N: n, There: there}
	if err := d.change(x, undo.Rec{Kind: undo.Change, Txn: x.id, Change: held, Was: was, Had: had}); err != nil {
		return 0, err
	}
	return told, nil
}

// change writes a change down, and makes it.
func (d *Db) change(x *txn, r undo.Rec) error {
	if err := d.fits(r.Key); err != nil {
		return err
	}
	recs := []undo.Rec{r}
	if len(x.changes) == 0 {
		recs = []undo.Rec{{Kind: undo.Begin, Txn: x.id}, r}
	}
	if err := d.write(recs...); err != nil {
		return err
	}
	x.changes = append(x.changes, r)
	d.hold(r.Change)
	return nil
}

// fits tells whether there is room for a key. One that an open transaction changed keeps its place, for it may hold something again when that is taken back.
func (d *Db) fits(key string) error {
	taken := map[string]struct{}{}
	for _, row := range d.all() {
		taken[row.Key] = struct{}{}
	}
	for _, x := range d.txns {
		for _, r := range x.changes {
			taken[r.Key] = struct{}{}
		}
	}
	if _, has := taken[key]; !has && len(taken) >= api.MaxRows {
		return fault.In(key, fault.Bound(api.MaxRows, int64(len(taken))+1, fault.New(api.ErrFull)))
	}
	return nil
}

// hold lets a key hold what a change says.
func (d *Db) hold(c cells.Change) {
	if c.There {
		d.store.Put(c.Key, c.N)
	} else {
		d.store.Del(c.Key)
	}
}
