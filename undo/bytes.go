package undo

import (
	"byroad/api"
	"byroad/octet"
)

// Encode is the bytes of a record.
func Encode(r Rec) []byte {
	b := octet.Seq(octet.Nat(uint64(r.Kind)), octet.Nat(uint64(r.Txn)))
	if r.moves() {
		b = append(b, octet.Seq(octet.Str(r.Key), held(r.N, r.There), held(r.Was, r.Had))...)
	}
	return b
}

// Decode is the record whose bytes these are.
func Decode(b []byte) (Rec, api.Errno) {
	in := octet.Of(b)
	r := read(in)
	if in.End() != api.OK || !May(r) {
		return Rec{}, api.ErrForm
	}
	return r, api.OK
}

// held is the bytes of what a key holds, if it holds anything.
func held(n int64, there bool) []byte {
	if !there {
		return octet.Yes(false)
	}
	return octet.Seq(octet.Yes(true), octet.Num(n))
}

// read reads a record; if its bytes can't be read, the reader tells so at its end.
func read(in *octet.In) Rec {
	// A number that is cut down to an int's bits must not come to be another one.
	r := Rec{Kind: int(min(in.Nat(), Back+1)), Txn: int(min(in.Nat(), lastTxn+1))}
	if r.moves() {
		r.Key = in.Str(api.MaxKey)
		r.N, r.There = readHeld(in)
		r.Was, r.Had = readHeld(in)
	}
	return r
}

// readHeld reads what a key holds, and whether it holds anything.
func readHeld(in *octet.In) (int64, bool) {
	if !in.Yes() {
		return 0, false
	}
	return in.Num(), true
}
