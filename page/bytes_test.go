package page_test

import (
	"bytes"
	"fmt"
	"math"
	"math/rand"
	"testing"

	"byroad/api"
	"byroad/octet"
	"byroad/page"
)

// put is the bytes of pages, whatever they are.
func put(pages ...[]api.Row) []byte {
	b := octet.Nat(uint64(len(pages)))
	for _, p := range pages {
		b = append(b, octet.Nat(uint64(len(p)))...)
		for _, row := range p {
			b = append(b, octet.Seq(octet.Str(row.Key), octet.Num(row.N))...)
		}
	}
	return b
}

// some is a page of these keys.
func some(keys ...string) []api.Row {
	var p []api.Row
	for i, k := range keys {
		p = append(p, api.Row{Key: k, N: int64(i)})
	}
	return p
}

// numbered is so many pages of so many rows, rising.
func numbered(pages, rows int) [][]api.Row {
	var l [][]api.Row
	for i := range pages {
		var p []api.Row
		for j := range rows {
			p = append(p, api.Row{Key: fmt.Sprintf("k%04d", i*rows+j), N: int64(-i)})
		}
		l = append(l, p)
	}
	return l
}

// unread fails the test, if these bytes are loaded.
func unread(t *testing.T, what string, b []byte, most int) {
	t.Helper()
	if s, e := page.Load(b, most); s != nil || e != api.ErrForm {
		t.Errorf("%s: %v %d", what, s.Pages(), e)
	}
}

// P8.5
func TestBytes(t *testing.T) {
	s := of(t, 2, "a bb c")
	s.Put("c", -3)
	if got, want := string(s.Bytes()), "\x01\x02"+"\x01\x01"+"\x01\x01a\x01\x02"+"\x01\x02"+"\x01\x02bb\x01\x04"+"\x01\x01c\x01\x05"; got != want {
		t.Errorf("%x", got)
	}
	if got := of(t, 2, "").Bytes(); string(got) != "\x00" {
		t.Errorf("of nothing: %x", got)
	}
}

// P8.5, P8.8: a store is loaded as it was, also one that puts alone would not make.
func TestLoad(t *testing.T) {
	for n, pages := range [][][]api.Row{
		nil,
		{some("a")},
		{some("")},
		{some("a"), some("b"), some("c")},
		{some("", "\x00", "A ~"), some(long), some("\xff", "\xff\xff")},
		{some("a", "b", "c"), some("ca"), some("d", "e", "f")},
		numbered(api.MaxRows, 1),
		numbered(85, 3),
	} {
		b := put(pages...)
		kept := bytes.Clone(b)
		s, e := page.Load(b, 3)
		if e != api.OK || !same(s.Pages(), pages) || !bytes.Equal(s.Bytes(), b) || !bytes.Equal(b, kept) {
			t.Error(n, e, s.Pages())
		}
		sound(t, fmt.Sprint(n), s, 3)
		for i := range b {
			if i < 40 || i > len(b)-40 {
				unread(t, fmt.Sprint(n, " cut at ", i), b[:i], 3)
			}
		}
		unread(t, fmt.Sprint(n, " longer"), append(kept, 0), 3)
	}
	if s, e := page.Load(put(numbered(4, 64)...), 64); e != api.OK || s.Len() != api.MaxRows {
		t.Error("as many as may be", e)
	}
}

// P8.5: bytes of no store.
func TestLoadForm(t *testing.T) {
	for what, b := range map[string][]byte{
		"nothing":                     nil,
		"an empty page":               put(nil),
		"an empty page behind one":    put(some("a"), nil),
		"a page that is too full":     put(some("a", "b", "c", "d", "e")),
		"the second one is too full":  put(some("a"), some("b", "c", "d", "e", "f")),
		"a key twice":                 put(some("a", "a")),
		"a key twice, in two pages":   put(some("a"), some("a")),
		"falling":                     put(some("b", "a")),
		"falling, in two pages":       put(some("a", "c"), some("b", "d")),
		"below the page ahead of it":  put(some("m"), some("a")),
		"a long key":                  put(some(tooLong)),
		"too many rows":               put(numbered(api.MaxRows+1, 1)...),
		"too many rows, in the last":  put(append(numbered(85, 3), some("x", "y"))...),
		"a count that can't be read":  {9},
		"a row that can't be read":    []byte("\x01\x01\x01\x01\x01\x01a\x09"),
		"a number with a nought":      []byte("\x01\x01\x01\x01\x01\x01a\x01\x00"),
		"as many pages as can be":     append(octet.Nat(math.MaxUint64), put(some("a"))[2:]...),
		"as many rows as can be":      octet.Seq(octet.Nat(1), octet.Nat(math.MaxUint64), put(some("a"))[4:]),
		"half of as many":             octet.Seq(octet.Nat(1), octet.Nat(1<<63), put(some("a"))[4:]),
		"a page more than there are":  append(octet.Nat(2), put(some("a"))[2:]...),
		"a page less than there are":  append(octet.Nat(1), put(some("a"), some("b"))[2:]...),
		"a store without pages, more": {0, 0},
	} {
		unread(t, what, b, 4)
	}
	if s, e := page.Load(put(some("a", "b", "c", "d", "e")), 5); e != api.OK || s.Len() != 5 {
		t.Error("five", e)
	}
}

// P8.5: how many rows a page may have is looked at first.
func TestLoadArg(t *testing.T) {
	for _, most := range []int{-1 << 63, -1, 0, 1, 65, 1<<63 - 1} {
		for _, b := range [][]byte{nil, put(), put(some("a")), {9}} {
			if s, e := page.Load(b, most); s != nil || e != api.ErrArg {
				t.Error(most, b, e)
			}
		}
	}
	for _, most := range []int{2, 64} {
		if s, e := page.Load(put(some("a")), most); e != api.OK || s.Len() != 1 {
			t.Error(most, e)
		}
	}
}

// P8.5: the store keeps its bound.
func TestLoadMost(t *testing.T) {
	s, _ := page.Load(put(some("a", "b")), 3)
	s.Put("c", 1)
	has(t, s, "a b c")
	s.Put("d", 1)
	has(t, s, "a b | c d")
}

// P8.5, P8.8: whatever is loaded has just these bytes, and is sound.
func TestLoadAny(t *testing.T) {
	r := rand.New(rand.NewSource(85))
	loaded := 0
	for n := range 20000 {
		b := put(some("a", "b"), some("c", "d", "e"), some("f"))
		for range r.Intn(3) {
			b[r.Intn(len(b))] = byte(r.Intn(110))
		}
		s, e := page.Load(b, 4)
		if e != api.OK {
			unread(t, "any", b, 4)
			continue
		}
		loaded++
		sound(t, fmt.Sprint(n), s, 4)
		if !bytes.Equal(s.Bytes(), b) {
			t.Fatalf("%x is loaded as %v", b, s.Pages())
		}
	}
	if loaded < 1000 {
		t.Error("hardly anything was loaded", loaded)
	}
}
