package journal

import (
	"bytes"

	"byroad/api"
	"byroad/crc"
	"byroad/fault"
)

// The kinds of frames.
const (
	record     = 0
	checkpoint = 1
)

// longest is the most bytes of a record or a state, for its frame's body holds its kind, too.
const longest = api.MaxBody - 1

// add puts records behind the log, all at once.
func (j *Journal) add(recs [][]byte) error {
	if len(recs) == 0 {
		return nil
	}
	frames, size, err := wrap(record, recs...)
	if err != nil {
		return err
	}
	seg, err := j.place(size)
	if err != nil {
		return err
	}
	if err := at(seg, j.t.Append(seg, frames...)); err != nil {
		return err
	}
	j.recs = append(j.recs, copies(recs)...)
	return nil
}

// place is the segment to which so many bytes are to be appended: the current one, or, if that would be too long by them, the next one.
func (j *Journal) place(size int) (int, error) {
	seg, err := j.current()
	if fault.Is(err, api.ErrNone) {
		return 0, nil
	}
	if n := j.t.Len(seg); n == 0 || n+size <= j.seg {
		return seg, nil
	}
	// A later segment may last while a tail of this one is lost, so this one must not have any.
	return j.settle()
}

// current is the last segment there is; ErrNone, if there is none.
func (j *Journal) current() (int, error) {
	segs := j.t.Segs()
	if len(segs) == 0 {
		return 0, fault.New(api.ErrNone)
	}
	return segs[len(segs)-1], nil
}

// settle lets the current segment last, if there is one, and tells the number of the next one.
func (j *Journal) settle() (int, error) {
	seg, err := j.current()
	if fault.Is(err, api.ErrNone) {
		return 0, nil
	}
	return seg + 1, at(seg, j.t.Sync(seg))
}

// save puts a checkpoint in the place of the log.
func (j *Journal) save(state []byte) error {
	frames, _, err := wrap(checkpoint, state)
	if err != nil {
		return err
	}
	next, err := j.settle()
	if err != nil {
		return err
	}
	if err := j.start(next, frames); err != nil {
		// The log goes on without it. If it stays, the power has failed, and it is as a Save that was under way.
		j.t.Drop(next)
		return err
	}
	j.state, j.recs = bytes.Clone(state), nil
	return j.drop(next)
}

// start makes a segment of frames that last.
func (j *Journal) start(seg int, frames [][]byte) error {
	if err := at(seg, j.t.Append(seg, frames...)); err != nil {
		return err
	}
	return at(seg, j.t.Sync(seg))
}

// drop takes away the segments ahead of one, rising.
func (j *Journal) drop(ahead int) error {
	for _, seg := range j.t.Segs() {
		if seg >= ahead {
			break
		}
		if err := at(seg, j.t.Drop(seg)); err != nil {
			return err
		}
	}
	return nil
}

// wrap is the frames of one kind, and how many bytes they have.
func wrap(kind byte, bodies ...[]byte) ([][]byte, int, error) {
	frames, size := make([][]byte, 0, len(bodies)), 0
	for i, b := range bodies {
		if len(b) > longest {
			return nil, 0, fault.At(i, fault.Bound(longest, int64(len(b)), fault.New(api.ErrLong)))
		}
		f := crc.Wrap([]byte{kind}, b)
		frames = append(frames, f)
		size += len(f)
	}
	return frames, size, nil
}

// copies is records that share nothing with those of l.
func copies(l [][]byte) [][]byte {
	c := make([][]byte, len(l))
	for i, rec := range l {
		c[i] = bytes.Clone(rec)
	}
	return c
}

// at is what the tape answered of a segment, as an error.
func at(seg int, e api.Errno) error {
	return fault.At(seg, fault.New(e))
}
