package dbb

import (
	"errors"
	"slices"

	"byroad/api"
	"byroad/cells"
	"byroad/chain"
	"byroad/fault"
	"byroad/ops"
)

// do does an operation: what it changes is a version of the transaction's time.
func (d *Db) do(id int, op api.Op) (int64, error) {
	x, err := d.find(id)
	if err != nil {
		return 0, err
	}
	if !ops.May(op) {
		return 0, fault.In(op.Key, fault.New(api.ErrArg))
	}
	was, had, err := d.read(id, op)
	if err != nil {
		return 0, fault.In(op.Key, err)
	}
	n, there, told, e := ops.Eval(op, was, had)
	if e != api.OK {
		return 0, fault.In(op.Key, fault.New(e))
	}
	if n == was && there == had { // never of a put
		return told, nil
	}
	err = d.change(x, cells.Change{Key: op.Key, N: n, There: there})
	if errors.Is(err, fault.New(api.ErrLate)) {
		d.abort(x)
	}
	if err != nil {
		return 0, fault.In(op.Key, err)
	}
	return told, nil
}

// read is what an operation's key holds at a transaction's time. A put is done as if that were nothing: what it does not ask makes nobody late.
func (d *Db) read(id int, op api.Op) (int64, bool, error) {
	if op.Kind == api.Put {
		return 0, false, nil
	}
	n, there, e := d.chain(op.Key).Read(id)
	return n, there, fault.At(id, fault.New(e))
}

// change makes a change at a transaction's time.
func (d *Db) change(x *txn, c cells.Change) error {
	if c.There {
		if err := d.fits(c.Key); err != nil {
			return err
		}
	}
	if e := d.chain(c.Key).Write(x.id, c.N, c.There); e != api.OK {
		return fault.At(x.id, fault.New(e))
	}
	if i, wrote := slices.BinarySearch(x.keys, c.Key); !wrote {
		x.keys = slices.Insert(x.keys, i, c.Key)
	}
	return nil
}

// chain is a key's chain; at first it has what the key holds, which is a row without a chain no more.
func (d *Db) chain(key string) *chain.Chain {
	if d.chains[key] == nil {
		d.chains[key] = chain.New(d.base.Get(key))
		d.base.Apply(cells.Change{Key: key})
	}
	return d.chains[key]
}

// fits tells whether there is room for a key that is to hold something. Each key of which some version does has its place.
func (d *Db) fits(key string) error {
	_, has := d.base.Get(key)
	taken := d.base.Len()
	for _, k := range d.keys() {
		if slices.ContainsFunc(d.chains[k].Versions(), holds) {
			taken++
			has = has || k == key
		}
	}
	if !has && taken >= api.MaxRows {
		return fault.Bound(api.MaxRows, int64(taken)+1, fault.New(api.ErrFull))
	}
	return nil
}

// holds tells whether a version holds anything.
func holds(v chain.Version) bool {
	return v.There
}
