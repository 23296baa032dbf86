package flex

import (
	"bytes"

	"byroad/api"
	"byroad/octet"
	"byroad/ops"
)

// tooMany is above all numbers that the bytes of a flexible transaction have.
const tooMany = api.MaxSubs + 1

// Encode is the bytes of a flexible transaction; none, if it may not be.
func Encode(p Spec) []byte {
	if !May(p) {
		return nil
	}
	b := nats(len(p.Subs))
	for _, s := range p.Subs {
		b = append(b, s.bytes()...)
	}
	b = append(b, nats(len(p.Paths))...)
	for _, path := range p.Paths {
		b = append(b, octet.Seq(nats(len(path)), nats(path...))...)
	}
	return b
}

// Decode is the flexible transaction whose bytes these are.
func Decode(b []byte) (Spec, api.Errno) {
	p := read(octet.Of(b))
	// Each one that may be has its own bytes alone: whatever could not be read is seen by them.
	if !May(p) || !bytes.Equal(Encode(p), b) {
		return Spec{}, api.ErrForm
	}
	return p, api.OK
}

// bytes is the bytes of a subtransaction.
func (s Sub) bytes() []byte {
	return octet.Seq(octet.Str(s.Name), nats(s.Site, s.Type), octet.Str(string(ops.Encode(s.Do...))), octet.Str(string(ops.Encode(s.Undo...))))
}

// nats is the bytes of numbers without a sign.
func nats(l ...int) []byte {
	var b []byte
	for _, n := range l {
		b = append(b, octet.Nat(uint64(n))...)
	}
	return b
}

// read reads a flexible transaction; where something can't be read, it has something else.
func read(in *octet.In) Spec {
	var p Spec
	for range small(in) {
		p.Subs = append(p.Subs, sub(in))
	}
	for range small(in) {
		p.Paths = append(p.Paths, path(in))
	}
	return p
}

// sub reads a subtransaction.
func sub(in *octet.In) Sub {
	return Sub{Name: in.Str(api.MaxName), Site: small(in), Type: small(in), Do: list(in), Undo: list(in)}
}

// path reads a path.
func path(in *octet.In) []int {
	var l []int
	for range small(in) {
		l = append(l, small(in))
	}
	return l
}

// list reads operations.
func list(in *octet.In) []api.Op {
	l, _ := ops.Decode([]byte(in.Str(api.MaxBody)))
	return l
}

// small reads a number without a sign. One that is too great is cut down to one that may be nowhere, so that nothing is read for ever.
func small(in *octet.In) int {
	return int(min(in.Nat(), tooMany))
}
