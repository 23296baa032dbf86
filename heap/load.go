package heap

import (
	"byroad/api"
	"byroad/cells"
	"byroad/fault"
	"byroad/octet"
)

// load finds the entries of the log again: those of its state, and of its records.
func (h *Heap) load() error {
	rows := cells.New()
	if err := h.restore(rows, h.log.State()); err != nil {
		return fault.In("state", err)
	}
	for i, b := range h.log.Recs() {
		mark, l, err := decode(b)
		if err == nil {
			err = h.redo(rows, mark, l)
		}
		if err != nil {
			return fault.In("record", fault.At(i, err))
		}
	}
	return nil
}

// restore reads a checkpoint's state, which has rows alone, by rising keys; without one there is nothing.
func (h *Heap) restore(rows *cells.Cells, state []byte) error {
	if len(state) == 0 {
		return nil
	}
	mark, l, err := decode(state)
	if err != nil {
		return err
	}
	for i, c := range l {
		if !c.There || i > 0 && c.Key <= l[i-1].Key {
			return fault.In(c.Key, fault.At(i, fault.New(api.ErrForm)))
		}
	}
	return h.redo(rows, mark, l)
}

// redo adds the changes of the log's next part, if there are not too many rows by them.
func (h *Heap) redo(rows *cells.Cells, mark int, l []cells.Change) error {
	if rows.Apply(l...) != api.OK {
		return fault.Bound(api.MaxRows, int64(rows.Len()), fault.New(api.ErrForm))
	}
	h.add(mark, l)
	return nil
}

// encode is the bytes of a record, or of a state.
func encode(mark int, l []cells.Change) []byte {
	return octet.Seq(octet.Nat(uint64(mark)), cells.Encode(l...))
}

// decode is the mark and the changes whose bytes these are. It takes as many changes as there are: a record may have more of them than cells.Decode takes.
func decode(b []byte) (int, []cells.Change, error) {
	r := octet.Of(b)
	mark := r.Nat()
	if mark > lastMark {
		return 0, nil, fault.In("mark", fault.New(api.ErrForm))
	}
	var l []cells.Change
	for n := r.Nat(); n > 0 && r.Err() == api.OK; n-- {
		l = append(l, change(r))
	}
	if r.End() != api.OK {
		return 0, nil, fault.In("changes", fault.At(r.Place(), fault.New(api.ErrForm)))
	}
	return int(mark), l, nil
}

// change reads one change; if its bytes can't be read, the reader tells so at its end.
func change(r *octet.In) cells.Change {
	c := cells.Change{Key: r.Str(api.MaxKey), There: r.Yes()}
	if c.There {
		c.N = r.Num()
	}
	return c
}
