package flex_test

import (
	"bytes"
	"math"
	"math/rand"
	"slices"
	"testing"

	"byroad/api"
	"byroad/flex"
	"byroad/octet"
	"byroad/ops"
)

// nat is the bytes of numbers.
func nat(l ...uint64) []byte {
	var b []byte
	for _, n := range l {
		b = append(b, octet.Nat(n)...)
	}
	return b
}

// sub is the bytes of a subtransaction, whatever it is.
func sub(name string, site, kind uint64, do, undo []api.Op) []byte {
	return octet.Seq(octet.Str(name), nat(site, kind), octet.Str(string(ops.Encode(do...))), octet.Str(string(ops.Encode(undo...))))
}

// P23.3
func TestEncode(t *testing.T) {
	const want = "\x01\x04" +
		"\x01\x01a" + "\x00" + "\x01\x01" + "\x01\x0a" + "\x01\x01" + "\x01\x04\x01\x01x\x01\x0a\x00" + "\x01\x0a" + "\x01\x01" + "\x01\x06\x01\x01x\x01\x09\x00" +
		"\x01\x01b" + "\x01\x01" + "\x00" + "\x01\x11" + "\x01\x02" + "\x01\x02\x01\x01z\x01\x06\x00" + "\x01\x01\x01\x01w\x00\x00" + "\x01\x01" + "\x00" +
		"\x01\x02c9" + "\x01\x02" + "\x01\x02" + "\x01\x0a" + "\x01\x01" + "\x01\x02\x01\x01z\x01\x06\x00" + "\x01\x01" + "\x00" +
		"\x01\x08abcdefgh" + "\x01\x02" + "\x01\x03" + "\x01\x11" + "\x01\x02" + "\x01\x01\x01\x01w\x00\x00" + "\x01\x02\x01\x01z\x01\x06\x00" +
		"\x01\x19" + "\x01\x03" + "\x01\x02\x01\x01z\x01\x06\x00" + "\x01\x06\x01\x01x\x01\x09\x00" + "\x01\x01\x01\x01w\x00\x00" +
		"\x01\x03" + "\x01\x02\x00\x01\x01" + "\x01\x03\x00\x01\x03\x01\x02" + "\x01\x01\x01\x02"
	if got := flex.Encode(example()); string(got) != want {
		t.Errorf("%x\nnot\n%x", got, want)
	}
	p, e := flex.Decode([]byte(want))
	if e != api.OK || !flex.Same(p, example()) {
		t.Error(p, e)
	}
}

// undecoded fails the test, if b is not refused.
func undecoded(t *testing.T, what string, b []byte) {
	t.Helper()
	if p, e := flex.Decode(b); e != api.ErrForm || !flex.Same(p, flex.Spec{}) {
		t.Errorf("%s: Decode(%x): %v %d", what, b, p, e)
	}
}

// P23.3: bytes of none that may be.
func TestDecodeRefused(t *testing.T) {
	one, two := sub("a", 0, 0, list(get), nil), sub("b", 2, 3, list(get), list(back))
	seq := octet.Seq
	ok := seq(nat(2), one, two, nat(2, 2, 0, 1, 1, 1))
	if p, e := flex.Decode(ok); e != api.OK || len(p.Subs) != 2 || len(p.Paths) != 2 {
		t.Fatal(p, e)
	}
	for n := range ok {
		undecoded(t, "cut", ok[:n])
	}
	nine := slices.Repeat(list(get), 9)
	for what, b := range map[string][]byte{
		"no bytes":                        nil,
		"nothing":                         {},
		"one byte more":                   append(slices.Clone(ok), 0),
		"no subtransaction":               seq(nat(0, 1, 1, 0)),
		"nothing in it":                   seq(nat(0, 0)),
		"no path":                         seq(nat(2), one, two, nat(0)),
		"a path without places":           seq(nat(2), one, two, nat(1, 0)),
		"a place that is not there":       seq(nat(2), one, two, nat(1, 1, 2)),
		"a very great place":              seq(nat(2), one, two, nat(1, 1, math.MaxUint64)),
		"a place beyond 32 bits":          seq(nat(2), one, two, nat(1, 1, 1<<32+1)),
		"fewer subtransactions":           seq(nat(3), one, two, nat(1, 1, 0)),
		"more subtransactions":            seq(nat(1), one, two, nat(1, 1, 0)),
		"very many":                       seq(nat(math.MaxUint64), one, two, nat(1, 1, 0)),
		"many beyond 32 bits":             seq(nat(1<<32+2), one, two, nat(1, 1, 0)),
		"fewer paths":                     seq(nat(2), one, two, nat(2, 1, 0)),
		"more paths":                      seq(nat(2), one, two, nat(1, 1, 0, 1, 0)),
		"very many paths":                 seq(nat(2), one, two, nat(math.MaxUint64, 1, 0)),
		"very many places":                seq(nat(2), one, two, nat(1, math.MaxUint64, 0)),
		"9 paths":                         seq(nat(2), one, two, nat(9), slices.Repeat(nat(1, 0), 9)),
		"9 places":                        seq(nat(2), one, two, nat(1, 9), slices.Repeat(nat(0), 9)),
		"the same name":                   seq(nat(2), one, one, nat(1, 1, 0)),
		"no name":                         seq(nat(1), sub("", 0, 0, list(get), nil), nat(1, 1, 0)),
		"another name":                    seq(nat(1), sub("A", 0, 0, list(get), nil), nat(1, 1, 0)),
		"a long name":                     seq(nat(1), sub("abcdefghi", 0, 0, list(get), nil), nat(1, 1, 0)),
		"site 3":                          seq(nat(1), sub("a", 3, 0, list(get), nil), nat(1, 1, 0)),
		"a very great site":               seq(nat(1), sub("a", math.MaxUint64, 0, list(get), nil), nat(1, 1, 0)),
		"a site beyond 32 bits":           seq(nat(1), sub("a", 1<<32, 0, list(get), nil), nat(1, 1, 0)),
		"type 4":                          seq(nat(1), sub("a", 0, 4, list(get), list(get)), nat(1, 1, 0)),
		"a type beyond 32 bits":           seq(nat(1), sub("a", 0, 1<<32, list(get), nil), nat(1, 1, 0)),
		"a very great type":               seq(nat(1), sub("a", 0, math.MaxUint64, list(get), nil), nat(1, 1, 0)),
		"no operations":                   seq(nat(1), sub("a", 0, 0, nil, nil), nat(1, 1, 0)),
		"9 operations":                    seq(nat(1), sub("a", 0, 0, nine, nil), nat(1, 1, 0)),
		"9 operations in an undo":         seq(nat(1), sub("a", 0, 1, list(get), nine), nat(1, 1, 0)),
		"a pivot with an undo":            seq(nat(1), sub("a", 0, 0, list(get), list(get)), nat(1, 1, 0)),
		"a retry with an undo":            seq(nat(1), sub("a", 0, 2, list(get), list(get)), nat(1, 1, 0)),
		"a comp without an undo":          seq(nat(1), sub("a", 0, 1, list(get), nil), nat(1, 1, 0)),
		"both without an undo":            seq(nat(1), sub("a", 0, 3, list(get), nil), nat(1, 1, 0)),
		"the system's key":                seq(nat(1), sub("a", 0, 0, list(api.Op{Kind: api.Get, Key: "~t"}), nil), nat(1, 1, 0)),
		"operations of no bytes":          seq(nat(1), octet.Str("a"), nat(0, 0), octet.Str(string(ops.Encode(get))), octet.Str(""), nat(1, 1, 0)),
		"operations that can't be read":   seq(nat(1), octet.Str("a"), nat(0, 0), octet.Str(string(ops.Encode(get))), octet.Str("\x09"), nat(1, 1, 0)),
		"operations with one byte more":   seq(nat(1), octet.Str("a"), nat(0, 0), octet.Str(string(ops.Encode(get))+"\x00"), octet.Str("\x00"), nat(1, 1, 0)),
		"operations of very many bytes":   seq(nat(1), octet.Str("a"), nat(0, 0), octet.Str(string(make([]byte, 1<<20))), octet.Str("\x00"), nat(1, 1, 0)),
		"how many in another form":        seq([]byte{2, 0, 2}, one, two, nat(1, 1, 0)),
		"a place in another form":         seq(nat(2), one, two, nat(1, 1), []byte{2, 0, 1}),
		"a number of more than 8 bytes":   seq([]byte{9}, one, two, nat(1, 1, 0)),
		"13 subtransactions":              thirteen(),
		"paths ahead of subtransactions":  seq(nat(1, 1, 0), nat(1), one),
		"a subtransaction without an end": seq(nat(1), one[:len(one)-1]),
	} {
		undecoded(t, what, b)
	}
}

// thirteen is the bytes of one that has a subtransaction too many.
func thirteen() []byte {
	b := nat(13)
	for i := range 13 {
		b = append(b, sub(string(rune('a'+i)), 0, 0, list(get), nil)...)
	}
	return append(b, nat(1, 1, 0)...)
}

// P23.3, P23.4: what is put into bytes is read again; what is read has no other bytes; bytes that are handed in are not kept.
func TestBytesBack(t *testing.T) {
	r := rand.New(rand.NewSource(23))
	for range 3000 {
		p := random(r)
		b := flex.Encode(p)
		kept := slices.Clone(b)
		got, e := flex.Decode(b)
		if e != api.OK || !flex.Same(got, p) || !bytes.Equal(b, kept) {
			t.Fatalf("%v: %v %d", p, got, e)
		}
		clear(b)
		if !flex.Same(got, p) {
			t.Fatal("the bytes are kept", got)
		}
		for range 20 {
			b = slices.Clone(kept)
			for range 1 + r.Intn(2) {
				spoil(r, &b)
			}
			got, e := flex.Decode(b)
			if e == api.OK && (!flex.May(got) || !bytes.Equal(flex.Encode(got), b)) || e != api.OK && (e != api.ErrForm || !flex.Same(got, flex.Spec{})) {
				t.Fatalf("%x: %v %d", b, got, e)
			}
		}
	}
}

// spoil changes bytes somewhere.
func spoil(r *rand.Rand, b *[]byte) {
	at := r.Intn(len(*b))
	switch r.Intn(5) {
	case 0:
		*b = slices.Insert(*b, at, byte(r.Intn(5)))
	case 1:
		if len(*b) > 1 {
			*b = slices.Delete(*b, at, at+1)
		}
	case 2:
		(*b)[at] = byte(r.Intn(256))
	case 3:
		(*b)[at] += byte(1 + r.Intn(3))
	case 4:
		(*b)[at] -= byte(1 + r.Intn(3))
	}
}

// P1: of any bytes something is answered.
func TestDecodeAnything(t *testing.T) {
	r := rand.New(rand.NewSource(24))
	for range 100000 {
		b := make([]byte, r.Intn(40))
		for i := range b {
			b[i] = byte(r.Intn(4))
		}
		p, e := flex.Decode(b)
		if e == api.OK && !bytes.Equal(flex.Encode(p), b) || e != api.OK && e != api.ErrForm {
			t.Fatalf("%x: %v %d", b, p, e)
		}
	}
}
