package tape

import (
	"byroad/api"
	"byroad/fault"
)

// lastSeg is the greatest number that a segment may have.
const lastSeg = 1 << 20

// Append puts parts behind the bytes of a segment; it makes the segment, if there is none.
func (t *Tape) Append(seg int, parts ...[]byte) api.Errno {
	err := t.ready(seg)
	if err == nil {
		err = t.fits(seg, parts)
	}
	return t.change(fault.In("append", err), func() {
		s := t.grown(seg)
		for _, p := range parts {
			s.bytes = append(s.bytes, p...)
		}
	})
}

// Sync lets all bytes of a segment last.
func (t *Tape) Sync(seg int) api.Errno {
	s, err := t.open(seg)
	return t.change(fault.In("sync", err), func() {
		s.synced = len(s.bytes)
	})
}

// Trim leaves a segment its first n bytes.
func (t *Tape) Trim(seg int, n int) api.Errno {
	s, err := t.open(seg)
	if err == nil {
		err = upto(len(s.bytes), n)
	}
	return t.change(fault.In("trim", err), func() {
		s.bytes = s.bytes[:n]
		s.synced = min(s.synced, n)
	})
}

// Drop takes a segment away.
func (t *Tape) Drop(seg int) api.Errno {
	_, err := t.open(seg)
	return t.change(fault.In("drop", err), func() {
		delete(t.segs, seg)
	})
}

// change does a change, if no error forbids it and the fuse lets it through; it tells the number of what went wrong.
func (t *Tape) change(err error, do func()) api.Errno {
	if err == nil {
		err = t.burn()
	}
	if err == nil {
		do()
	}
	return fault.Code(err)
}

// burn takes one change from the fuse. If it has none left, the power fails.
func (t *Tape) burn() error {
	if !t.fused {
		return nil
	}
	if t.left == 0 {
		t.down = true
		return fault.In("fuse", fault.New(api.ErrDown))
	}
	t.left--
	return nil
}

// named tells whether a number may be a segment's.
func (t *Tape) named(seg int) error {
	if t == nil {
		return fault.New(api.ErrNil)
	}
	return fault.At(seg, upto(lastSeg, seg))
}

// ready tells whether a segment may be changed, be it there or not.
func (t *Tape) ready(seg int) error {
	if err := t.named(seg); err != nil {
		return err
	}
	if t.down {
		return fault.At(seg, fault.New(api.ErrDown))
	}
	return nil
}

// look is a segment that is there.
func (t *Tape) look(seg int) (*segment, error) {
	if err := t.named(seg); err != nil {
		return nil, err
	}
	if s := t.segs[seg]; s != nil {
		return s, nil
	}
	return nil, fault.At(seg, fault.New(api.ErrNone))
}

// open is a segment that is there and may be changed.
func (t *Tape) open(seg int) (*segment, error) {
	if err := t.ready(seg); err != nil {
		return nil, err
	}
	return t.look(seg)
}

// fits tells whether there is room for parts in a segment.
func (t *Tape) fits(seg int, parts [][]byte) error {
	size := 0
	for _, p := range parts {
		size += len(p)
	}
	if free := t.Free(); size > free {
		return fault.Bound(int64(free), int64(size), fault.At(seg, fault.New(api.ErrFull)))
	}
	if n := len(t.segs); n >= api.MaxSegs && t.segs[seg] == nil {
		return fault.Bound(api.MaxSegs, int64(n), fault.At(seg, fault.New(api.ErrFull)))
	}
	return nil
}

// grown is a segment to which bytes are appended.
func (t *Tape) grown(seg int) *segment {
	if t.segs == nil {
		t.segs = map[int]*segment{}
	}
	s := t.segs[seg]
	if s == nil {
		s = &segment{}
		t.segs[seg] = s
	}
	return s
}

// upto tells whether n is from 0 to most.
func upto(most, n int) error {
	if n < 0 || n > most {
		return fault.Bound(int64(most), int64(n), fault.New(api.ErrArg))
	}
	return nil
}
