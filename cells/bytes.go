package cells

import (
	"byroad/api"
	"byroad/octet"
)

// many is the most changes that are read from bytes.
const many = 4096

// Encode is the bytes of changes.
func Encode(l ...Change) []byte {
	b := octet.Nat(uint64(len(l)))
	for _, x := range l {
		b = append(b, octet.Seq(octet.Str(x.Key), octet.Yes(x.There))...)
		if x.There {
			b = append(b, octet.Num(x.N)...)
		}
	}
	return b
}

// Decode is the changes whose bytes these are.
func Decode(b []byte) ([]Change, api.Errno) {
	r := octet.Of(b)
	n := r.Nat()
	if n > many {
		return nil, api.ErrForm
	}
	var l []Change
	for range n {
		l = append(l, next(r))
	}
	if r.End() != api.OK {
		return nil, api.ErrForm
	}
	return l, api.OK
}

// next reads one change; if its bytes can't be read, the reader tells so at its end.
func next(r *octet.In) Change {
	x := Change{Key: r.Str(api.MaxKey), There: r.Yes()}
	if x.There {
		x.N = r.Num()
	}
	return x
}
