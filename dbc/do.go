package dbc

import (
	"byroad/api"
	"byroad/cells"
	"byroad/fault"
	"byroad/ops"
)

// do does an operation: what it changes stands on the side.
func (d *Db) do(id int, op api.Op) (int64, error) {
	x, err := d.find(id)
	if err != nil {
		return 0, err
	}
	if !ops.May(op) {
		return 0, fault.In(op.Key, fault.New(api.ErrArg))
	}
	was, had := d.see(x, op)
	n, there, told, e := ops.Eval(op, was, had)
	if e != api.OK {
		return 0, fault.In(op.Key, fault.New(e))
	}
	if n != was || there != had { // always of a put
		x.side[op.Key] = cells.Change{Key: op.Key, N: n, There: there}
	}
	return told, nil
}

// see is what an operation is done with. A put is done as if its key held nothing: what it does not ask makes nobody stale.
func (d *Db) see(x *txn, op api.Op) (int64, bool) {
	if op.Kind == api.Put {
		return 0, false
	}
	if c, own := x.side[op.Key]; own {
		return c.N, c.There
	}
	x.read[op.Key] = struct{}{}
	return d.rows.Get(op.Key)
}
