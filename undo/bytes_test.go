package undo_test

import (
	"bytes"
	"fmt"
	"math"
	"math/rand"
	"testing"

	"byroad/api"
	"byroad/cells"
	"byroad/octet"
	"byroad/undo"
)

// P11.1
func TestEncode(t *testing.T) {
	for _, x := range []struct {
		r    undo.Rec
		want string
	}{
		{plain(undo.Begin, 1), "\x01\x01\x01\x01"},
		{plain(undo.Commit, 300), "\x01\x03\x02\x01\x2c"},
		{plain(undo.Abort, lastTxn), "\x01\x04\x04\x40\x00\x00\x00"},
		{change(1, "x", nil, nil), "\x01\x02\x01\x01" + "\x01\x01x" + "\x00" + "\x00"},
		{change(1, "x", 5, -3), "\x01\x02\x01\x01" + "\x01\x01x" + "\x01\x01\x05" + "\x01\x01\x0a"},
		{back(2, "", nil, 0), "\x01\x05\x01\x02" + "\x00" + "\x01\x00" + "\x00"},
		{back(2, "ab", 0, nil), "\x01\x05\x01\x02" + "\x01\x02ab" + "\x00" + "\x01\x00"},
	} {
		if got := undo.Encode(x.r); string(got) != x.want {
			t.Errorf("%v: %x", x.r, got)
		}
	}
}

// P1: a record that may not be is put into bytes, too, whatever these say; nothing but a record that may be is read from them.
func TestEncodeAny(t *testing.T) {
	for kind := -1; kind <= 7; kind++ {
		for _, r := range []undo.Rec{{Txn: math.MinInt}, {Txn: -1}, {Change: cells.Change{Key: tooLong, N: 5}, Was: 7}, {Had: true, Was: -1}} {
			r.Kind = kind
			if x, e := undo.Decode(undo.Encode(r)); e == api.OK && !undo.May(x) {
				t.Error(r, "is read as", x)
			}
		}
	}
}

// anyHeld is what a key may hold.
func anyHeld(r *rand.Rand) (int64, bool) {
	if r.Intn(3) == 0 {
		return 0, false
	}
	return []int64{0, 1, -1, math.MaxInt64, math.MinInt64, r.Int63()}[r.Intn(6)], true
}

// anyRec is a record that may be.
func anyRec(r *rand.Rand) undo.Rec {
	x := undo.Rec{Kind: undo.Begin + r.Intn(5), Txn: []int{1, 2, 255, 256, lastTxn, 1 + r.Intn(lastTxn)}[r.Intn(6)]}
	if x.Kind == undo.Change || x.Kind == undo.Back {
		key := make([]byte, r.Intn(api.MaxKey+1))
		r.Read(key)
		x.Key = string(key)
		x.N, x.There = anyHeld(r)
		x.Was, x.Had = anyHeld(r)
	}
	return x
}

// unread fails the test, if these bytes are read.
func unread(t *testing.T, what string, b []byte) {
	t.Helper()
	if r, e := undo.Decode(b); r != (undo.Rec{}) || e != api.ErrForm {
		t.Errorf("%s: %v %d", what, r, e)
	}
}

// P11.1, P11.6: a record is read from its bytes as it was; no beginning of these, and nothing longer, is read.
func TestBack(t *testing.T) {
	r := rand.New(rand.NewSource(116))
	for n := range 2000 {
		x := anyRec(r)
		if !undo.May(x) {
			t.Fatal(x, "may not be")
		}
		b := undo.Encode(x)
		kept := bytes.Clone(b)
		got, e := undo.Decode(b)
		if e != api.OK || got != x || !bytes.Equal(b, kept) {
			t.Fatal(n, e, got, x)
		}
		clear(b)
		if got != x || !bytes.Equal(undo.Encode(x), kept) {
			t.Fatal(n, "the bytes are kept")
		}
		for i := range kept {
			unread(t, fmt.Sprint(n, " cut at ", i), kept[:i])
		}
		unread(t, fmt.Sprint(n, " longer"), append(kept, 0))
	}
}

// P11.1: what can't be read.
func TestDecodeForm(t *testing.T) {
	begin := func(kind, txn uint64) []byte { return octet.Seq(octet.Nat(kind), octet.Nat(txn)) }
	one := func(kind uint64, key, rest string) []byte {
		return octet.Seq(begin(kind, 1), octet.Str(key), []byte(rest))
	}
	unread(t, "nothing", nil)
	for _, kind := range []uint64{0, 6, 7, 1 << 32, 1<<32 + 1, 1<<63 + 1, math.MaxUint64} {
		unread(t, fmt.Sprint("kind ", kind), begin(kind, 1))
		unread(t, fmt.Sprint("kind ", kind, " with a key"), one(kind, "x", "\x00\x00"))
	}
	for _, txn := range []uint64{0, lastTxn + 1, 1<<32 + 1, 1<<63 + 1, math.MaxUint64} {
		unread(t, fmt.Sprint("of ", txn), begin(undo.Begin, txn))
		unread(t, fmt.Sprint("a change of ", txn), octet.Seq(begin(undo.Change, txn), octet.Str("x"), []byte("\x00\x00")))
	}
	for _, kind := range []uint64{undo.Change, undo.Back} {
		unread(t, "without a key", begin(kind, 1))
		unread(t, "a key that is too long", one(kind, tooLong, "\x00\x00"))
		unread(t, "a bool of 2", one(kind, "x", "\x02\x00"))
		unread(t, "a bool of 2 behind", one(kind, "x", "\x00\x02"))
		unread(t, "a number behind nothing", one(kind, "x", "\x00\x01\x02\x00"))
		unread(t, "a nought ahead", one(kind, "x", "\x01\x01\x00\x00"))
		if r, e := undo.Decode(one(kind, long, "\x01\x00\x01\x01\x01")); e != api.OK || r != rec(int(kind), 1, long, -1, 0) {
			t.Error("a long key", r, e)
		}
	}
	for _, kind := range []uint64{undo.Begin, undo.Commit, undo.Abort} {
		unread(t, "with a key", one(kind, "", "\x00\x00"))
	}
	unread(t, "a kind with a nought ahead", []byte("\x02\x00\x01\x01\x01"))
}

// P11.1: whatever is read may be, and has just these bytes.
func TestDecodeAny(t *testing.T) {
	r := rand.New(rand.NewSource(111))
	read := 0
	for range 20000 {
		b := undo.Encode(anyRec(r))
		for range r.Intn(3) {
			b[r.Intn(len(b))] = byte(r.Intn(256))
		}
		x, e := undo.Decode(b)
		if e != api.OK {
			unread(t, "any", b)
			continue
		}
		read++
		if !undo.May(x) || !bytes.Equal(undo.Encode(x), b) {
			t.Fatalf("%x is read as %v", b, x)
		}
	}
	if read < 1000 {
		t.Error("hardly anything was read", read)
	}
}
