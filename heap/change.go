package heap

import (
	"byroad/api"
	"byroad/cells"
	"byroad/fault"
)

// lastMark is the greatest mark there may be.
const lastMark = 1 << 30

// put writes changes behind the log, if the rows may be changed so.
func (h *Heap) put(mark int, l []cells.Change) error {
	if mark < 0 || mark > lastMark {
		return fault.Bound(lastMark, int64(mark), fault.New(api.ErrArg))
	}
	if e := cells.New(h.Rows()...).Apply(l...); e != api.OK {
		return fault.In("rows", fault.New(e))
	}
	if e := h.log.Write(encode(mark, l)); e != api.OK {
		return fault.In("write", fault.New(e))
	}
	h.add(mark, l)
	return nil
}

// compact writes what is live into a checkpoint. Till that lasts, the log is what it was.
func (h *Heap) compact() error {
	l := cells.New().Diff(cells.New(h.Rows()...))
	if e := h.log.Save(encode(h.mark, l)); e != api.OK {
		return fault.In("save", fault.New(e))
	}
	clear(h.index)
	h.size = 0
	h.add(h.mark, l)
	return nil
}

// add finds changes that stand in the log now, behind all others.
func (h *Heap) add(mark int, l []cells.Change) {
	h.mark = max(h.mark, mark)
	for _, c := range l {
		h.point(entry{c, h.size})
	}
}

// point lets an entry be its key's. The one ahead of it is dead then; one that holds nothing is dead itself.
func (h *Heap) point(x entry) {
	h.size = x.at + 1
	if x.There {
		h.index[x.Key] = x
	} else {
		delete(h.index, x.Key)
	}
}
