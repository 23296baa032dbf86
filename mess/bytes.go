package mess

import (
	"byroad/api"
	"byroad/crc"
	"byroad/octet"
	"byroad/ops"
)

// Encode is the bytes of a message; none, if it may not be.
func Encode(m Msg) []byte {
	if !May(m) {
		return nil
	}
	return crc.Wrap(
		nats(m.Kind, m.From, m.To, m.G, m.Node, m.Try, m.Low, int(m.Code)), octet.Nat(uint64(m.Ticket)),
		nums(m.Told), octet.Str(string(ops.Encode(m.Ops...))))
}

// Decode is the message whose bytes these are.
func Decode(b []byte) (Msg, api.Errno) {
	body, whole := crc.One(b)
	in := octet.Of(body)
	m := read(in)
	l, e := ops.Decode([]byte(in.Str(api.MaxBody)))
	m.Ops = l
	if !whole || e != api.OK || in.End() != api.OK || !May(m) {
		return Msg{}, api.ErrForm
	}
	return m, api.OK
}

// nats is the bytes of numbers without a sign.
func nats(l ...int) []byte {
	var b []byte
	for _, n := range l {
		b = append(b, octet.Nat(uint64(n))...)
	}
	return b
}

// nums is the bytes of numbers with a sign, and of how many there are.
func nums(l []int64) []byte {
	b := nats(len(l))
	for _, n := range l {
		b = append(b, octet.Num(n)...)
	}
	return b
}

// read reads all of a message but its operations; if its bytes can't be read, the reader tells so at its end.
func read(in *octet.In) Msg {
	return Msg{
		Kind: small(in), From: small(in), To: small(in),
		About: About{G: small(in), Node: small(in), Try: small(in)},
		Low:   small(in), Code: api.Errno(small(in)), Ticket: int64(in.Nat()),
		Told: told(in),
	}
}

// small reads a number without a sign. One that is too great is cut down to one that may be nowhere: an int's bits might make one that may be of it.
func small(in *octet.In) int {
	return int(min(in.Nat(), lastLow+1))
}

// told reads numbers with a sign. Of too many there is one more than may be, so that they are not read for ever.
func told(in *octet.In) []int64 {
	var l []int64
	for range min(in.Nat(), api.MaxOps+1) {
		l = append(l, in.Num())
	}
	return l
}
