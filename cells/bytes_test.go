package cells_test

import (
	"bytes"
	"fmt"
	"math"
	"math/rand"
	"slices"
	"testing"

	"byroad/api"
	"byroad/cells"
	"byroad/octet"
)

// P7.4
func TestEncode(t *testing.T) {
	for _, x := range []struct {
		l    []cells.Change
		want string
	}{
		{nil, "\x00"},
		{[]cells.Change{{Key: "x"}}, "\x01\x01" + "\x01\x01x\x00"},
		{[]cells.Change{{"ab", -3, true}, {Key: "c"}, {"", 0, true}}, "\x01\x03" + "\x01\x02ab\x01\x01\x05" + "\x01\x01c\x00" + "\x00\x01\x00"},
		{[]cells.Change{{Key: "x", N: 5}}, "\x01\x01" + "\x01\x01x\x00"},
	} {
		if got := cells.Encode(x.l...); string(got) != x.want {
			t.Errorf("Encode(%v): %x", x.l, got)
		}
	}
}

// anyChange is a change that may be.
func anyChange(r *rand.Rand) cells.Change {
	key := make([]byte, r.Intn(api.MaxKey+1))
	r.Read(key)
	x := cells.Change{Key: string(key), There: r.Intn(3) > 0}
	if x.There {
		x.N = []int64{0, 1, -1, math.MaxInt64, math.MinInt64, r.Int63()}[r.Intn(6)]
	}
	return x
}

// P7.4, P7.7: changes are read from their bytes as they were; no beginning of these, and nothing longer, is read.
func TestBack(t *testing.T) {
	r := rand.New(rand.NewSource(77))
	for n := range 200 {
		var l []cells.Change
		for range n % 20 {
			l = append(l, anyChange(r))
		}
		b := cells.Encode(l...)
		kept := bytes.Clone(b)
		got, e := cells.Decode(b)
		if e != api.OK || !slices.Equal(got, l) || !bytes.Equal(b, kept) {
			t.Fatal(n, e, got, l)
		}
		clear(b)
		if !slices.Equal(got, l) {
			t.Fatal(n, "the bytes are kept")
		}
		for i := range kept {
			unread(t, fmt.Sprint(n, " cut at ", i), kept[:i])
		}
		unread(t, fmt.Sprint(n, " longer"), append(kept, 0))
	}
}

// unread fails the test, if these bytes are read.
func unread(t *testing.T, what string, b []byte) {
	t.Helper()
	if l, e := cells.Decode(b); l != nil || e != api.ErrForm {
		t.Errorf("%s: %v %d", what, l, e)
	}
}

// P7.4: what can't be read.
func TestDecodeForm(t *testing.T) {
	one := func(key string) []byte { return octet.Seq(octet.Nat(1), octet.Str(key), octet.Yes(false)) }
	unread(t, "nothing", nil)
	unread(t, "a key that is too long", one(tooLong))
	if l, e := cells.Decode(one(long)); e != api.OK || !slices.Equal(l, []cells.Change{{Key: long}}) {
		t.Error("a long key", l, e)
	}
	unread(t, "a bool of 2", []byte("\x01\x01\x01\x01x\x02"))
	unread(t, "a bool of 2 and a number", []byte("\x01\x01\x01\x01x\x02\x00"))
	unread(t, "a number behind nothing", []byte("\x01\x01\x01\x01x\x00\x00"))
	unread(t, "a number with a nought ahead", []byte("\x01\x01\x01\x01x\x01\x01\x00"))
	unread(t, "as many as a number can say", append(octet.Nat(math.MaxUint64), one("x")[2:]...))
	unread(t, "a count that can't be read", []byte{9})
}

// P7.4: 4096 changes are read, and no more.
func TestDecodeMany(t *testing.T) {
	l := slices.Repeat([]cells.Change{{"x", 1, true}, {Key: "y"}}, 2048)
	if got, e := cells.Decode(cells.Encode(l...)); e != api.OK || !slices.Equal(got, l) {
		t.Error(len(got), e)
	}
	unread(t, "too many", cells.Encode(append(l, cells.Change{Key: "z"})...))
}

// P7.4: whatever is read has just these bytes.
func TestDecodeAny(t *testing.T) {
	r := rand.New(rand.NewSource(74))
	read := 0
	for range 20000 {
		b := cells.Encode(anyChange(r), anyChange(r))
		for range r.Intn(4) {
			b[r.Intn(len(b))] = byte(r.Intn(256))
		}
		l, e := cells.Decode(b)
		if e != api.OK {
			unread(t, "any", b)
			continue
		}
		read++
		if !bytes.Equal(cells.Encode(l...), b) {
			t.Fatalf("%x is read as %v", b, l)
		}
	}
	if read < 1000 {
		t.Error("hardly anything was read", read)
	}
}
