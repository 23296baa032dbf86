package cells

import (
	"slices"

	"byroad/api"
	"byroad/fault"
	"byroad/ops"
)

// Run does operations, all or none: what each tells; or the number of the first that can't be done, and its error.
func (c *Cells) Run(l ...api.Op) ([]int64, int, api.Errno) {
	if c == nil {
		return nil, 0, api.ErrNil
	}
	told, err := c.run(l)
	if err != nil {
		return nil, fault.Place(err), fault.Code(err)
	}
	return told, 0, api.OK
}

// Apply makes changes, all or none.
func (c *Cells) Apply(l ...Change) api.Errno {
	if c == nil {
		return api.ErrNil
	}
	return fault.Code(c.apply(l))
}

// run does operations, all or none; an error says of which one it is, and then what was told counts for nothing.
func (c *Cells) run(l []api.Op) ([]int64, error) {
	var told []int64
	err := c.whole(func(try *Cells) error {
		for i, op := range l {
			n, err := try.do(op)
			if err != nil {
				return fault.At(i, fault.In(op.Key, err))
			}
			told = append(told, n)
		}
		return nil
	})
	return told, err
}

// apply makes changes, all or none; an error says of which one it is.
func (c *Cells) apply(l []Change) error {
	if err := check(l); err != nil {
		return err
	}
	return c.whole(func(try *Cells) error {
		for i, x := range l {
			if err := try.change(x); err != nil {
				return fault.At(i, fault.In(x.Key, err))
			}
		}
		return nil
	})
}

// whole does work on a copy first, so that work that fails half-way leaves nothing behind.
func (c *Cells) whole(work func(try *Cells) error) error {
	try := c.Copy()
	if err := work(try); err != nil {
		return err
	}
	c.rows = try.rows
	return nil
}

// do does one operation, and is what it tells.
func (c *Cells) do(op api.Op) (int64, error) {
	old, there := c.Get(op.Key)
	n, there, told, e := ops.Eval(op, old, there)
	if e != api.OK {
		return 0, fault.New(e)
	}
	return told, c.change(Change{op.Key, n, there})
}

// change makes one change, unless there would be too many keys by it.
func (c *Cells) change(x Change) error {
	i, there := c.find(x.Key)
	switch {
	case x.There && there:
		c.rows[i].N = x.N
	case x.There && len(c.rows) >= api.MaxRows:
		return fault.Bound(api.MaxRows, int64(len(c.rows))+1, fault.New(api.ErrFull))
	case x.There:
		c.rows = slices.Insert(c.rows, i, api.Row{Key: x.Key, N: x.N})
	case there:
		c.rows = slices.Delete(c.rows, i, i+1)
	}
	return nil
}

// check tells which change may not be.
func check(l []Change) error {
	for i, x := range l {
		if !fits(x.Key) || !x.There && x.N != 0 {
			return fault.At(i, fault.In(x.Key, fault.New(api.ErrArg)))
		}
	}
	return nil
}
