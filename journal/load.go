package journal

import "byroad/crc"

// piece is what stands in one segment.
type piece struct {
	seg    int
	bodies [][]byte // of the frames with which it begins
	whole  int      // how many bytes these frames have
	size   int      // how many bytes there are
}

// load takes away what is torn and what is ahead of the log, and keeps what the log has.
func (j *Journal) load() error {
	l, err := j.pieces()
	if err != nil {
		return err
	}
	if l, err = j.mend(l); err != nil || len(l) == 0 {
		return err
	}
	l = l[begin(l):]
	if err := j.drop(l[0].seg); err != nil {
		return err
	}
	j.state, _ = l[0].check()
	for _, p := range l {
		j.recs = append(j.recs, p.records()...)
	}
	return nil
}

// pieces is what stands in the tape's segments, rising.
func (j *Journal) pieces() ([]piece, error) {
	var l []piece
	for _, seg := range j.t.Segs() {
		b, e := j.t.Read(seg)
		if err := at(seg, e); err != nil {
			return nil, err
		}
		bodies, whole := crc.All(b)
		l = append(l, piece{seg, bodies, whole, len(b)})
	}
	return l, nil
}

// mend takes away what is torn, and tells what is left: the last segments go, as long as they have no frame, and the bytes behind the frames of the next one.
func (j *Journal) mend(l []piece) ([]piece, error) {
	for len(l) > 0 {
		last := l[len(l)-1]
		if len(last.bodies) > 0 {
			return l, j.trim(last)
		}
		if err := at(last.seg, j.t.Drop(last.seg)); err != nil {
			return nil, err
		}
		l = l[:len(l)-1]
	}
	return nil, nil
}

// trim takes away the bytes behind a segment's frames, if there are any.
func (j *Journal) trim(p piece) error {
	if p.whole == p.size {
		return nil
	}
	return at(p.seg, j.t.Trim(p.seg, p.whole))
}

// begin is the place of the piece with which the log begins.
func begin(l []piece) int {
	for i := len(l) - 1; i > 0; i-- {
		if _, ok := l[i].check(); ok {
			return i
		}
	}
	return 0
}

// check is the state of the checkpoint with which a piece begins, if it begins with one.
func (p piece) check() ([]byte, bool) {
	if len(p.bodies) == 0 {
		return nil, false
	}
	return says(p.bodies[0], checkpoint)
}

// records is the records of a piece.
func (p piece) records() [][]byte {
	var l [][]byte
	for _, b := range p.bodies {
		if rec, ok := says(b, record); ok {
			l = append(l, rec)
		}
	}
	return l
}

// says is what the body of a frame of that kind says. A body may have no bytes: that one is of no kind.
func says(body []byte, kind byte) ([]byte, bool) {
	if len(body) == 0 || body[0] != kind {
		return nil, false
	}
	return body[1:], true
}
