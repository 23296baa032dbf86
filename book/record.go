package book

import (
	"byroad/api"
	"byroad/fault"
	"byroad/flex"
	"byroad/octet"
	"byroad/plan"
)

// Kinds of records.
const (
	accepted = iota + 1
	cancelled
	kept
	failed
	undone
	ended
)

// tooMany is above all numbers that the bytes of a book have.
const tooMany = lastG + 2

// rec is a record: a decision on a global transaction.
type rec struct {
	kind, g int
	node    int       // of kept, failed and undone
	plan    plan.Plan // of accepted
}

// bytes is the bytes of a record.
func (r rec) bytes() []byte {
	b := nats(r.kind, r.g)
	switch r.kind {
	case accepted:
		b = append(b, spec(r.plan)...)
	case kept, failed, undone:
		b = append(b, nats(r.node)...)
	}
	return b
}

// record is the record whose bytes these are.
func record(b []byte) (rec, error) {
	in := octet.Of(b)
	r := rec{kind: small(in), g: small(in)}
	var err error
	switch r.kind {
	case accepted:
		r.plan, err = readPlan(in)
	case kept, failed, undone:
		r.node = small(in)
	case cancelled, ended:
	default:
		err = fault.In("kind", fault.New(api.ErrForm))
	}
	return r, fault.First(err, end(in))
}

// nats is the bytes of numbers without a sign.
func nats(l ...int) []byte {
	var b []byte
	for _, n := range l {
		b = append(b, octet.Nat(uint64(n))...)
	}
	return b
}

// spec is the bytes of a plan's flexible transaction, as a text.
func spec(p plan.Plan) []byte {
	return octet.Str(string(flex.Encode(p.Spec)))
}

// small reads a number without a sign. One that is too great is cut down to one that may be nowhere, lest it come to be another one in an int's bits.
func small(in *octet.In) int {
	return int(min(in.Nat(), tooMany))
}

// readPlan reads a flexible transaction that is well-formed.
func readPlan(in *octet.In) (plan.Plan, error) {
	s, e := flex.Decode([]byte(in.Str(api.MaxBody)))
	if e != api.OK {
		return plan.Plan{}, fault.In("transaction", fault.New(e))
	}
	p, place, e := plan.Of(s)
	if e != api.OK {
		return plan.Plan{}, fault.At(place, fault.In("plan", fault.New(api.ErrForm)))
	}
	return p, nil
}

// end tells what could not be read, or that bytes are left.
func end(in *octet.In) error {
	if in.End() != api.OK {
		return fault.At(in.Place(), fault.New(api.ErrForm))
	}
	return nil
}
