package page_test

import (
	"fmt"
	"slices"
	"strings"
	"testing"

	"byroad/api"
	"byroad/page"
)

const (
	long    = "abcdefghijklmnop"
	tooLong = long + "q"
)

// same tells whether two lists of pages are the same.
func same(a, b [][]api.Row) bool {
	return slices.EqualFunc(a, b, slices.Equal[[]api.Row])
}

// of is a store of these keys, put one behind the other; each one's row holds its number, from 1 on.
func of(t *testing.T, most int, keys string) *page.Store {
	t.Helper()
	s, e := page.New(most)
	if e != api.OK {
		t.Fatal(most, e)
	}
	for i, k := range strings.Fields(keys) {
		if e := s.Put(k, int64(i+1)); e != api.OK {
			t.Fatal(k, e)
		}
	}
	return s
}

// keys is a store's keys, a stroke between two pages.
func keys(s *page.Store) string {
	var l []string
	for _, p := range s.Pages() {
		var one []string
		for _, row := range p {
			one = append(one, row.Key)
		}
		l = append(l, strings.Join(one, " "))
	}
	return strings.Join(l, " | ")
}

// has fails the test, if the pages do not have just these keys.
func has(t *testing.T, s *page.Store, want string) {
	t.Helper()
	if got := keys(s); got != want {
		t.Errorf("pages %s, not %s", got, want)
	}
}

// P8.1
func TestNew(t *testing.T) {
	for most := -3; most <= 70; most++ {
		s, e := page.New(most)
		if most < 2 || most > 64 {
			if s != nil || e != api.ErrArg {
				t.Error(most, s, e)
			}
			continue
		}
		if s == nil || e != api.OK || len(s.Pages()) != 0 || s.Len() != 0 || string(s.Bytes()) != "\x00" {
			t.Error(most, s, e)
		}
	}
	for _, most := range []int{-1 << 63, 1<<63 - 1, 1 << 32, 1<<32 + 2} {
		if s, e := page.New(most); s != nil || e != api.ErrArg {
			t.Error(most, s, e)
		}
	}
}

// P8.2, P8.3: the chapter's example, step by step.
func TestExample(t *testing.T) {
	s := of(t, 2, "a b")
	has(t, s, "a b")
	s.Put("c", 3)
	has(t, s, "a | b c")
	if !s.Del("a") {
		t.Error("Del a")
	}
	has(t, s, "b c")
	s.Put("aa", 4)
	has(t, s, "aa | b c")
}

// P8.2: the key's page, and where a page is parted.
func TestPut(t *testing.T) {
	has(t, of(t, 4, "d b a c"), "a b c d")
	has(t, of(t, 4, "d b a c e"), "a b | c d e")
	has(t, of(t, 3, "a b c d"), "a b | c d")
	has(t, of(t, 3, "a b d e c"), "a b c | d e")
	has(t, of(t, 3, "d e f g a"), "a d e | f g")
	has(t, of(t, 3, "a b c d e f g h"), "a b | c d | e f | g h")
	has(t, of(t, 3, "h g f e d c b a"), "a b | c d | e f | g h")
	s := of(t, 3, "a b c d b")
	has(t, s, "a b | c d")
	if n, ok := s.Get("b"); n != 5 || !ok {
		t.Error("instead of the same key", n, ok)
	}
	s.Put("", -1)
	has(t, s, " a b | c d")
	if n, ok := s.Get(""); n != -1 || !ok {
		t.Error("the empty key", n, ok)
	}
}

// P8.2: what is put into the first half later is not written over the second one's rows, nor the other way round.
func TestParted(t *testing.T) {
	s := of(t, 8, "a c e g i k m o q")
	has(t, s, "a c e g | i k m o q")
	for _, k := range []string{"b", "d", "f", "h"} {
		s.Put(k, 9)
	}
	has(t, s, "a b c d e f g h | i k m o q")
	for i, k := range []string{"i", "k", "m", "o", "q"} {
		if n, ok := s.Get(k); n != int64(i+5) || !ok {
			t.Error(k, n, ok)
		}
	}
	for _, k := range []string{"a", "b", "c", "z"} {
		s.Del(k)
		s.Put(k+"x", 1)
	}
	has(t, s, "ax bx cx d e f g h | i k m o q zx")
}

// P8.2: what may not be put, and what changes then: nothing.
func TestPutRefused(t *testing.T) {
	s := of(t, 2, "a b c")
	if e := s.Put(tooLong, 1); e != api.ErrArg {
		t.Error(e)
	}
	if e := s.Put(long, 1); e != api.OK {
		t.Error(e)
	}
	s.Del(long)
	for i := range api.MaxRows - 3 {
		if e := s.Put(fmt.Sprintf("k%03d", i), 1); e != api.OK {
			t.Fatal(i, e)
		}
	}
	was := s.Pages()
	if e := s.Put("d", 1); e != api.ErrFull {
		t.Error("full", e)
	}
	if e := s.Put(tooLong, 1); e != api.ErrArg {
		t.Error("too long and full", e)
	}
	if !same(s.Pages(), was) || s.Len() != api.MaxRows {
		t.Error("something is changed", s.Len())
	}
	if e := s.Put("k100", -5); e != api.OK {
		t.Error("a key that is there", e)
	}
	if n, ok := s.Get("k100"); n != -5 || !ok {
		t.Error(n, ok)
	}
	s.Del("a")
	if e := s.Put("d", 1); e != api.OK {
		t.Error("room again", e)
	}
}

// P8.3: which pages are gone, or become one.
func TestDel(t *testing.T) {
	for _, x := range []struct {
		most            int
		put, gone, want string
	}{
		{2, "a", "a", ""},
		{2, "a b c d", "b", "a | c d"},
		{3, "a b c d e f", "c", "a b | d | e f"},       // 1 is not below half of 3, rounded down
		{3, "a b c d e f", "c d", "a b | e f"},         // gone
		{4, "a b c d e", "a", "b c d e"},               // one with the page behind it
		{4, "a b c d e f g", "e", "a b | c d | f g"},   // kept
		{4, "a b c d e f g", "c", "a b | d e f g"},     // the one behind it comes first
		{4, "a b c d e f g h", "c", "a b d | e f g h"}, // behind it there are too many
		{4, "a b c d e f", "c d e", "a b f"},           // behind it there is none
		{4, "a b c d e aa ab", "c d", "a aa ab b | e"}, // ahead of it there are too many
		{5, "a b c d e f g h i", "h i", "a b c | d e f g"},
		{5, "a b c d e f", "a b", "c d e f"},
		{64, "a b c", "b", "a c"},
	} {
		s := of(t, x.most, x.put)
		was := keys(s)
		for _, k := range strings.Fields(x.gone) {
			if !s.Del(k) {
				t.Error("Del", k)
			}
			if _, ok := s.Get(k); ok || s.Del(k) {
				t.Error(k, "is there still")
			}
		}
		if got := keys(s); got != x.want {
			t.Errorf("most %d: %s without %s: %s, not %s", x.most, was, x.gone, got, x.want)
		}
	}
}

// P8.3
func TestDelNone(t *testing.T) {
	s := of(t, 4, "b d f h j")
	for _, k := range []string{"", "a", "c", "e", "g", "k", tooLong} {
		if s.Del(k) {
			t.Error("Del", k)
		}
	}
	has(t, s, "b d | f h j")
	if of(t, 4, "").Del("a") {
		t.Error("of nothing")
	}
}

// P8.4
func TestGet(t *testing.T) {
	s := of(t, 2, "b d f h j l")
	for i, k := range []string{"b", "d", "f", "h", "j", "l"} {
		if n, ok := s.Get(k); n != int64(i+1) || !ok {
			t.Error(k, n, ok)
		}
	}
	for _, k := range []string{"", "a", "bb", "c", "e", "g", "i", "k", "m", tooLong} {
		if n, ok := s.Get(k); n != 0 || ok {
			t.Error(k, n, ok)
		}
	}
	if n, ok := of(t, 2, "").Get(""); n != 0 || ok {
		t.Error("of nothing", n, ok)
	}
}

// P8.4
func TestScan(t *testing.T) {
	s := of(t, 2, "b d f h")
	s.Put("", 0)
	for _, x := range []struct{ from, to, want string }{
		{"", "", " b d f h"}, {"b", "", "b d f h"}, {"a", "", "b d f h"}, {"c", "", "d f h"}, {"h", "", "h"}, {"i", "", ""},
		{"b", "h", "b d f"}, {"", "b", ""}, {"a", "b", ""}, {"b", "b", ""}, {"b", "c", "b"}, {"d", "b", ""}, {"c", "g", "d f"}, {"", "z", " b d f h"}, {"bb", tooLong, ""},
	} {
		var l []string
		for _, row := range s.Scan(x.from, x.to) {
			l = append(l, row.Key)
			if n, _ := s.Get(row.Key); n != row.N {
				t.Error(row)
			}
		}
		if got := strings.Join(l, " "); got != x.want {
			t.Errorf("Scan(%q, %q): %q, not %q", x.from, x.to, got, x.want)
		}
	}
	if l := s.Scan("", "b"); len(l) != 1 {
		t.Error("the empty key", l)
	}
}

// P8.8: what is told shares nothing with the store, and no two pages of an answer share anything.
func TestShared(t *testing.T) {
	s := of(t, 4, "a b c d e f g h")
	was := keys(s)
	for _, p := range s.Pages() {
		_ = append(p, api.Row{Key: "x", N: 9})
		clear(p)
	}
	clear(s.Pages())
	clear(s.Bytes())
	clear(s.Scan("", ""))
	_ = append(s.Scan("a", "c"), api.Row{Key: "x", N: 9})
	has(t, s, was)
	l := s.Pages()
	_ = append(l[0], api.Row{Key: "x", N: 9}, api.Row{Key: "y", N: 9})
	if !same(l, s.Pages()) {
		t.Error("one page is written over another one", l)
	}
	b := s.Bytes()
	u, _ := page.Load(b, 4)
	clear(b)
	has(t, u, was)
}

// P8.4: a copy goes a way of its own.
func TestCopy(t *testing.T) {
	s := of(t, 4, "a b c d e")
	u := s.Copy()
	u.Put("a", 100)
	u.Put("f", 1)
	u.Put("g", 1)
	u.Del("b")
	has(t, s, "a b | c d e")
	if n, _ := s.Get("a"); n != 1 {
		t.Error("a", n)
	}
	v := s.Copy()
	s.Del("c")
	s.Put("aa", 1)
	has(t, v, "a b | c d e")
	v.Put("x", 1)
	v.Put("y", 1)
	has(t, v, "a b | c d | e x y")
}

// The chapter's words on a nil store.
func TestNil(t *testing.T) {
	var s *page.Store
	if n, ok := s.Get("a"); n != 0 || ok || s.Del("a") || s.Len() != 0 || s.Copy() != nil {
		t.Error("something is told")
	}
	if s.Put("a", 1) != api.ErrNil || s.Put(tooLong, 1) != api.ErrNil {
		t.Error("Put")
	}
	if s.Scan("", "") != nil || s.Pages() != nil || s.Bytes() != nil {
		t.Error("lists")
	}
}

// A store that nobody made is one without pages; whatever is done with it, it does not panic.
func TestZero(t *testing.T) {
	var s page.Store
	for range 2 {
		for _, k := range []string{"b", "a", "c", "b", "a"} {
			s.Put(k, 1)
		}
		if s.Len() != 3 || len(s.Scan("", "")) != 3 || s.Copy().Len() != 3 {
			t.Error(s.Pages())
		}
		for _, k := range []string{"b", "a", "c", "b", "a"} {
			s.Del(k)
		}
	}
	if s.Len() != 0 {
		t.Error(s.Pages())
	}
}
