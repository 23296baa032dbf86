package octet_test

import (
	"bytes"
	"math"
	"slices"
	"strings"
	"testing"

	"byroad/octet"
)

var nats = []struct {
	n    uint64
	want string
}{
	{0, "\x00"},
	{1, "\x01\x01"},
	{255, "\x01\xff"},
	{256, "\x02\x01\x00"},
	{300, "\x02\x01\x2c"},
	{65535, "\x02\xff\xff"},
	{65536, "\x03\x01\x00\x00"},
	{1<<24 - 1, "\x03\xff\xff\xff"},
	{1 << 24, "\x04\x01\x00\x00\x00"},
	{1 << 32, "\x05\x01\x00\x00\x00\x00"},
	{0x010203040506, "\x06\x01\x02\x03\x04\x05\x06"},
	{1 << 48, "\x07\x01\x00\x00\x00\x00\x00\x00"},
	{1<<56 - 1, "\x07\xff\xff\xff\xff\xff\xff\xff"},
	{1 << 56, "\x08\x01\x00\x00\x00\x00\x00\x00\x00"},
	{math.MaxUint64, "\x08\xff\xff\xff\xff\xff\xff\xff\xff"},
}

var nums = []struct {
	n    int64
	want string
}{
	{0, "\x00"},
	{-1, "\x01\x01"},
	{1, "\x01\x02"},
	{-3, "\x01\x05"},
	{127, "\x01\xfe"},
	{-128, "\x01\xff"},
	{128, "\x02\x01\x00"},
	{-129, "\x02\x01\x01"},
	{math.MaxInt64, "\x08\xff\xff\xff\xff\xff\xff\xff\xfe"},
	{math.MinInt64, "\x08\xff\xff\xff\xff\xff\xff\xff\xff"},
}

// P2.1, P2.4
func TestNumbersBytes(t *testing.T) {
	for _, c := range nats {
		if s := string(octet.Nat(c.n)); s != c.want {
			t.Errorf("Nat(%d) %x", c.n, s)
		}
		if r := octet.Of([]byte(c.want)); r.Nat() != c.n || r.End() != 0 {
			t.Errorf("Nat of %x: %v", c.want, r.Err())
		}
	}
	for _, c := range nums {
		if s := string(octet.Num(c.n)); s != c.want {
			t.Errorf("Num(%d) %x", c.n, s)
		}
		if r := octet.Of([]byte(c.want)); r.Num() != c.n || r.End() != 0 {
			t.Errorf("Num of %x: %v", c.want, r.Err())
		}
	}
}

// P2.1
func TestTextsBytes(t *testing.T) {
	long := strings.Repeat("x", 300)
	for _, c := range []struct {
		name string
		got  []byte
		want string
	}{
		{"Str", octet.Str("ab"), "\x01\x02ab"},
		{"Str of none", octet.Str(""), "\x00"},
		{"Str of any bytes", octet.Str("\xff\x00"), "\x01\x02\xff\x00"},
		{"Str of runes", octet.Str("é"), "\x01\x02\xc3\xa9"},
		{"Str of many", octet.Str(long), "\x02\x01\x2c" + long},
		{"Yes", octet.Yes(true), "\x01"},
		{"no", octet.Yes(false), "\x00"},
		{"Strs", octet.Strs("a", "", "bc"), "\x01\x03\x01\x01a\x00\x01\x02bc"},
		{"Strs of none", octet.Strs(), "\x00"},
		{"Seq", octet.Seq([]byte("a"), nil, []byte("bc"), []byte("")), "abc"},
		{"Seq of none", octet.Seq(), ""},
	} {
		if string(c.got) != c.want {
			t.Errorf("%s: %x", c.name, c.got)
		}
	}
}

// P2.1 and the rules: what is answered is new, what is handed in stays.
func TestAnswersAreNew(t *testing.T) {
	a, b := []byte("ab"), []byte("cd")
	one, both := octet.Seq(a), octet.Seq(a[:1], b)
	one[0], both[0], both[1] = 'X', 'X', 'X'
	if string(a) != "ab" || string(b) != "cd" {
		t.Error("Seq shares with what was handed in")
	}
	roomy := append(make([]byte, 0, 8), "ab"...)
	octet.Seq(roomy, b)
	if string(roomy[:4]) != "ab\x00\x00" {
		t.Error("Seq writes behind what was handed in")
	}
	for name, f := range map[string]func() []byte{
		"Nat": func() []byte { return octet.Nat(7) }, "Num": func() []byte { return octet.Num(7) }, "Str": func() []byte { return octet.Str("a") },
		"Yes": func() []byte { return octet.Yes(true) }, "Strs": func() []byte { return octet.Strs("a") },
	} {
		x := f()
		want := bytes.Clone(x)
		y := f()
		clear(x)
		_ = append(x, 1, 2, 3)
		if !bytes.Equal(y, want) || !bytes.Equal(f(), want) {
			t.Error(name, "shares with another answer")
		}
	}
	l := []string{"a", "b"}
	octet.Strs(l...)
	if !slices.Equal(l, []string{"a", "b"}) {
		t.Error("Strs changes its list")
	}
}

// things is bytes of each kind of thing, and how such a thing is read and put into bytes again.
var things = map[string]struct {
	list [][]byte
	read func(r *octet.In) []byte
}{
	"Nat":  {natsBytes(), func(r *octet.In) []byte { return octet.Nat(r.Nat()) }},
	"Num":  {natsBytes(), func(r *octet.In) []byte { return octet.Num(r.Num()) }},
	"Yes":  {[][]byte{{0}, {1}}, func(r *octet.In) []byte { return octet.Yes(r.Yes()) }},
	"Str":  {[][]byte{octet.Str(""), octet.Str("a"), octet.Str("\x00\x01"), octet.Str(strings.Repeat("y", 300))}, func(r *octet.In) []byte { return octet.Str(r.Str(400)) }},
	"Strs": {[][]byte{octet.Strs(), octet.Strs(""), octet.Strs("a", "", "bc"), octet.Strs("\x00")}, func(r *octet.In) []byte { return octet.Strs(r.Strs(9, 9)...) }},
	"Upto": {natsBytes(), func(r *octet.In) []byte { return octet.Num(r.Upto(math.MinInt64, math.MaxInt64)) }},
}

func natsBytes() [][]byte {
	var l [][]byte
	for _, c := range nats {
		l = append(l, []byte(c.want))
	}
	return l
}

// P2.4, P2.5
func TestBackAndNoBeginning(t *testing.T) {
	for name, c := range things {
		for _, b := range c.list {
			r := octet.Of(b)
			if got := c.read(r); !bytes.Equal(got, b) || r.End() != 0 || r.Place() != -1 || r.Left() != 0 {
				t.Errorf("%s: %x is read as %x, %v", name, b, got, r.Err())
			}
			r = octet.Of(octet.Seq(b, []byte{9}))
			if got := c.read(r); !bytes.Equal(got, b) || r.Err() != 0 || r.Left() != 1 {
				t.Errorf("%s: %x with more behind it is read as %x, %v", name, b, got, r.Err())
			}
			for n := range b {
				r := octet.Of(b[:n])
				c.read(r)
				if r.End() == 0 {
					t.Errorf("%s: %x, a beginning of %x, is whole", name, b[:n], b)
				}
			}
		}
	}
}

// P2.4: whatever short bytes are read have no other bytes.
func TestOneFormAlone(t *testing.T) {
	some := []byte{0, 1, 2, 3, 8, 9, 'a', 255}
	var b []byte
	var try func(n int)
	try = func(n int) {
		for name, c := range things {
			r := octet.Of(b)
			if got := c.read(r); r.End() == 0 && !bytes.Equal(got, b) {
				t.Errorf("%s: %x is read, and has the bytes %x", name, b, got)
			}
		}
		if n == 0 {
			return
		}
		for _, x := range some {
			b = append(b, x)
			try(n - 1)
			b = b[:len(b)-1]
		}
	}
	try(4)
}
