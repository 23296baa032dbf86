package ops

import (
	"byroad/api"
	"byroad/octet"
)

// many is the most operations that are read from bytes.
const many = 64

// Encode is the bytes of operations.
func Encode(l ...api.Op) []byte {
	b := octet.Nat(uint64(len(l)))
	for _, op := range l {
		b = append(b, octet.Seq(octet.Nat(uint64(op.Kind)), octet.Str(op.Key), octet.Num(op.N), octet.Num(op.Lo))...)
	}
	return b
}

// Decode is the operations whose bytes these are.
func Decode(b []byte) ([]api.Op, api.Errno) {
	r := octet.Of(b)
	n := r.Nat()
	if n > many {
		return nil, api.ErrForm
	}
	var l []api.Op
	for range n {
		op := next(r)
		if !May(op) {
			return nil, api.ErrForm
		}
		l = append(l, op)
	}
	if r.End() != api.OK {
		return nil, api.ErrForm
	}
	return l, api.OK
}

// next reads one operation; if its bytes can't be read, the reader tells so at its end.
func next(r *octet.In) api.Op {
	// A kind that is cut down to an int's bits must not come to be another one.
	kind := int(min(r.Nat(), api.Back+1))
	return api.Op{Kind: kind, Key: r.Str(api.MaxKey), N: r.Num(), Lo: r.Num()}
}
