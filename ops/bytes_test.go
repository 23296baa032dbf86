package ops_test

import (
	"bytes"
	"math"
	"math/rand"
	"slices"
	"strings"
	"testing"

	"byroad/api"
	"byroad/octet"
	"byroad/ops"
)

// one is the bytes of one operation, whatever it is.
func one(kind uint64, key string, n, least int64) []byte {
	return octet.Seq(octet.Nat(kind), octet.Str(key), octet.Num(n), octet.Num(least))
}

// P6.4
func TestEncode(t *testing.T) {
	for _, c := range []struct {
		l    []api.Op
		want string
	}{
		{nil, "\x00"},
		{list(get("x")), "\x01\x01" + "\x01\x01\x01\x01x\x00\x00"},
		{list(add("x", 5), least("~y", -3, 300)), "\x01\x02" + "\x01\x04\x01\x01x\x01\x0a\x00" + "\x01\x05\x01\x02~y\x01\x05\x02\x02\x58"},
	} {
		if got := ops.Encode(c.l...); string(got) != c.want {
			t.Errorf("Encode of %+v: %x", c.l, got)
		}
	}
	for n, op := range append(right("key"), wrong("key")...) {
		want := octet.Seq(octet.Nat(2), one(uint64(op.Kind), op.Key, op.N, op.Lo), one(uint64(op.Kind), op.Key, op.N, op.Lo))
		if op.Kind >= 0 && !bytes.Equal(ops.Encode(op, op), want) {
			t.Errorf("%d: Encode of %+v: %x", n, op, ops.Encode(op, op))
		}
	}
}

// P6.4, P6.6: what was put into bytes is read again, and has no other bytes.
func TestBytesBack(t *testing.T) {
	r := rand.New(rand.NewSource(64))
	all := slices.Concat(right("x"), right("abcdefghijklmnop"), right("~t"), right("~abcdefghijklmno"))
	for n := range 65 {
		var l []api.Op
		for range n {
			l = append(l, all[r.Intn(len(all))])
		}
		b := ops.Encode(l...)
		kept := slices.Clone(b)
		got, e := ops.Decode(b)
		if e != api.OK || !slices.Equal(got, l) || !bytes.Equal(b, kept) {
			t.Errorf("%d: %+v %d", n, got, e)
		}
		clear(b)
		if !slices.Equal(got, l) {
			t.Error(n, "the bytes are kept")
		}
		for cut := range kept {
			if got, e := ops.Decode(kept[:cut]); e != api.ErrForm || len(got) != 0 {
				t.Fatal(n, "cut at", cut, got, e)
			}
		}
		if got, e := ops.Decode(append(kept, 0)); e != api.ErrForm || len(got) != 0 {
			t.Error(n, "and one byte more", got, e)
		}
	}
}

// P6.4: bytes of no operations.
func TestDecodeRefused(t *testing.T) {
	ok := one(api.Put, "x", 5, 0)
	seq := func(n uint64, l ...[]byte) []byte { return append(octet.Nat(n), octet.Seq(l...)...) }
	for name, b := range map[string][]byte{
		"nothing":               nil,
		"no bytes":              {},
		"how many is none":      {9},
		"a nought ahead":        append([]byte{2, 0, 1}, ok...),
		"fewer":                 seq(2, ok),
		"more":                  seq(1, ok, ok),
		"none, but one":         seq(0, ok),
		"65":                    seq(65, slices.Repeat(ok, 65)),
		"very many":             seq(math.MaxUint64, ok),
		"kind 0":                seq(1, one(0, "x", 0, 0)),
		"kind 7":                seq(1, one(7, "x", 0, 0)),
		"kind -1":               seq(1, one(math.MaxUint64, "x", 0, 0)),
		"a kind beyond 32 bits": seq(1, one(1<<32+api.Get, "x", 0, 0)),
		"no key":                seq(1, one(api.Get, "", 0, 0)),
		"another key":           seq(1, one(api.Get, "X", 0, 0)),
		"the system's, short":   seq(1, one(api.Get, "~", 0, 0)),
		"a long key":            seq(1, one(api.Get, strings.Repeat("k", 17), 0, 0)),
		"a very long key":       seq(1, one(api.Get, strings.Repeat("k", 1<<16), 0, 0)),
		"get with N":            seq(1, one(api.Get, "x", 1, 0)),
		"del with N":            seq(1, one(api.Del, "x", -1, 0)),
		"get with Lo":           seq(1, one(api.Get, "x", 0, 1)),
		"put with Lo":           seq(1, one(api.Put, "x", 1, 1)),
		"add with Lo":           seq(1, one(api.Add, "x", 1, 1)),
		"back with Lo":          seq(1, one(api.Back, "x", 1, 1)),
		"the second one":        seq(2, ok, one(api.Get, "x", 1, 0)),
		"the first one":         seq(2, one(api.Get, "x", 1, 0), ok),
		"N that can't be read":  seq(1, octet.Nat(api.Put), octet.Str("x"), []byte{1, 0}, octet.Num(0)),
		"a kind in two bytes":   seq(1, []byte{2, 0, 1}, octet.Str("x"), octet.Num(0), octet.Num(0)),
	} {
		if got, e := ops.Decode(b); e != api.ErrForm || len(got) != 0 {
			t.Errorf("%s: %+v %d", name, got, e)
		}
	}
	if got, e := ops.Decode(seq(64, slices.Repeat(ok, 64))); e != api.OK || len(got) != 64 {
		t.Error("64", len(got), e)
	}
	if got, e := ops.Decode([]byte{0}); e != api.OK || len(got) != 0 {
		t.Error("none", got, e)
	}
}

// P1 and P6.6: of any bytes something is answered, and what is read has no other bytes.
func TestDecodeAnything(t *testing.T) {
	r := rand.New(rand.NewSource(65))
	for range 100000 {
		b := ops.Encode(right("x")[r.Intn(15)], right("~t")[r.Intn(15)])
		for range r.Intn(3) {
			b[r.Intn(len(b))] = byte(r.Intn(256))
		}
		l, e := ops.Decode(b)
		if e == api.OK && !bytes.Equal(ops.Encode(l...), b) || e != api.OK && (e != api.ErrForm || len(l) != 0) {
			t.Fatalf("%x: %+v %d", b, l, e)
		}
	}
}

// The rules: no list that is answered is shared with another one, or with what was handed in.
func TestListsShareNothing(t *testing.T) {
	const text = "add x 5; get y; min y -3 0"
	do, _, _ := ops.Parse(text)
	b := ops.Encode(do...)
	for name, tell := range map[string]func() []api.Op{
		"Parse":   func() []api.Op { l, _, _ := ops.Parse(text); return l },
		"Decode":  func() []api.Op { l, _ := ops.Decode(b); return l },
		"Inverse": func() []api.Op { l, _ := ops.Inverse(do...); return l },
	} {
		first := tell()
		want := ops.Print(first...)
		clear(first)
		_ = append(first, get("z"))
		if got := ops.Print(tell()...); got != want {
			t.Error(name, got)
		}
	}
	keys := ops.Keys(do...)
	clear(keys)
	c := ops.Encode(do...)
	clear(c)
	if !slices.Equal(ops.Keys(do...), []string{"x", "y"}) || !bytes.Equal(ops.Encode(do...), b) || ops.Print(do...) != text {
		t.Error("written into what was handed in")
	}
}
