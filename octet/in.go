package octet

import (
	"bytes"

	"byroad/api"
	"byroad/fault"
)

// In is a reader of bytes. It stands at a place in them, for good, once something was wrong there.
type In struct {
	b    []byte
	at   int
	fail error // what was wrong first, and where; nil, if nothing was
}

// Of is a reader of b, at its beginning.
func Of(b []byte) *In {
	return &In{b: bytes.Clone(b)}
}

// Nat reads a number without a sign.
func (r *In) Nat() uint64 {
	if !r.good() {
		return 0
	}
	n, size, ok := nat(r.b[r.at:])
	if !ok {
		r.wrong(r.at, api.ErrForm)
		return 0
	}
	r.at += size
	return n
}

// Num reads a number with a sign.
func (r *In) Num() int64 {
	n := r.Nat()
	if n%2 == 1 {
		return -1 - int64(n/2)
	}
	return int64(n / 2)
}

// Upto reads a number with a sign from lo to hi.
func (r *In) Upto(lo, hi int64) int64 {
	if !r.good() {
		return 0
	}
	from := r.at
	n := r.Num()
	if !r.good() {
		return 0
	}
	if n < lo || n > hi {
		r.wrong(from, api.ErrArg)
		return 0
	}
	return n
}

// Str reads a text of at most so many bytes.
func (r *In) Str(most int) string {
	if !r.good() {
		return ""
	}
	from := r.at
	n := r.count(most)
	if !r.good() {
		return ""
	}
	if n > r.Left() {
		r.wrong(from, api.ErrForm)
		return ""
	}
	r.at += n
	return string(r.b[r.at-n : r.at])
}

// Yes reads a bool.
func (r *In) Yes() bool {
	if !r.good() {
		return false
	}
	if r.Left() == 0 || r.b[r.at] > 1 {
		r.wrong(r.at, api.ErrForm)
		return false
	}
	r.at++
	return r.b[r.at-1] == 1
}

// Strs reads a list of at most many texts, each of at most so many bytes.
func (r *In) Strs(many, most int) []string {
	var l []string
	for n := r.count(many); n > 0; n-- {
		s := r.Str(most)
		if !r.good() {
			return nil
		}
		l = append(l, s)
	}
	return l
}

// Err is what was wrong first.
func (r *In) Err() api.Errno {
	if r == nil {
		return api.ErrNil
	}
	return fault.Code(r.fail)
}

// Place is where that began which was wrong first; -1, if nothing was wrong.
func (r *In) Place() int {
	if r == nil {
		return -1
	}
	return fault.Place(r.fail)
}

// Left is how many bytes are left.
func (r *In) Left() int {
	if r == nil {
		return 0
	}
	return len(r.b) - r.at
}

// End is what was wrong first; bytes that are left are wrong.
func (r *In) End() api.Errno {
	if r.good() && r.Left() > 0 {
		r.wrong(r.at, api.ErrForm)
	}
	return r.Err()
}

// good tells whether there is a reader of which nothing was wrong.
func (r *In) good() bool {
	return r != nil && r.fail == nil
}

// wrong says what is wrong with the thing that began at a place; the reader stands there from now on.
func (r *In) wrong(place int, e api.Errno) {
	r.at = place
	r.fail = fault.At(place, fault.New(e))
}

// count reads how many there are of something, at most so many.
func (r *In) count(most int) int {
	if !r.good() {
		return 0
	}
	from := r.at
	n := r.Nat()
	if n > uint64(max(most, 0)) {
		r.wrong(from, api.ErrLong)
		return 0
	}
	return int(n)
}

// nat is the number whose bytes b begins with, and how many bytes these are.
func nat(b []byte) (n uint64, size int, ok bool) {
	if len(b) == 0 || b[0] > wide {
		return 0, 0, false
	}
	size = 1 + int(b[0])
	if len(b) < size || size > 1 && b[1] == 0 {
		return 0, 0, false
	}
	for _, x := range b[1:size] {
		n = n<<8 | uint64(x)
	}
	return n, size, true
}
