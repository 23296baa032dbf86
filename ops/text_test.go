package ops_test

import (
	"math/rand"
	"slices"
	"strings"
	"testing"

	"byroad/api"
	"byroad/ops"
)

// P6.3
func TestPrint(t *testing.T) {
	for _, c := range []struct {
		l    []api.Op
		want string
	}{
		{nil, ""},
		{list(get("x")), "get x"},
		{list(put("x", 5)), "put x 5"},
		{list(put("x", 0)), "put x 0"},
		{list(del("x.y_9")), "del x.y_9"},
		{list(add("x", -5)), "add x -5"},
		{list(add("x", lo)), "add x -9223372036854775808"},
		{list(back("x", hi)), "back x 9223372036854775807"},
		{list(least("y", -3, 0)), "min y -3 0"},
		{list(least("y", 3, -12)), "min y 3 -12"},
		{list(add("x", 5), least("y", -3, 0)), "add x 5; min y -3 0"},
		{list(get("~t"), put("~t", 1)), "get ~t; put ~t 1"},
		{list(api.Op{}), "?"},
		{list(get("x"), get("X"), get("y")), "get x; ?; get y"},
		{slices.Repeat(list(get("x")), 10), strings.Repeat("get x; ", 9) + "get x"},
	} {
		kept := slices.Clone(c.l)
		if got := ops.Print(c.l...); got != c.want || !slices.Equal(c.l, kept) {
			t.Errorf("Print of %+v: %q", kept, got)
		}
	}
	for _, op := range append(wrong("k"), wrong("~k")...) {
		if got := ops.Print(op, op); got != "?; ?" {
			t.Errorf("Print of %+v: %q", op, got)
		}
	}
	for _, key := range nobodys {
		for _, op := range right(key) {
			if got := ops.Print(op); got != "?" {
				t.Errorf("Print of %+v: %q", op, got)
			}
		}
	}
}

// P6.3: texts of operations.
func TestParse(t *testing.T) {
	for s, want := range map[string][]api.Op{
		"":                                    nil,
		" ":                                   nil,
		"      ":                              nil,
		"get x":                               list(get("x")),
		"put x 5":                             list(put("x", 5)),
		"del x":                               list(del("x")),
		"add x -5":                            list(add("x", -5)),
		"min x 5 -7":                          list(least("x", 5, -7)),
		"back x 0":                            list(back("x", 0)),
		"put x 9223372036854775807":           list(put("x", hi)),
		"put x -9223372036854775808":          list(put("x", lo)),
		"get get":                             list(get("get")),
		"put 5 5":                             list(put("5", 5)),
		"get _._":                             list(get("_._")),
		"get abcdefghijklmnop":                list(get("abcdefghijklmnop")),
		"add x 5; min y -3 0":                 list(add("x", 5), least("y", -3, 0)),
		"add x 5;min y -3 0":                  list(add("x", 5), least("y", -3, 0)),
		"  add   x  5  ;   min y   -3 0  ":    list(add("x", 5), least("y", -3, 0)),
		"get x ;get x":                        list(get("x"), get("x")),
		strings.Repeat("get x;", 7) + "del x": append(slices.Repeat(list(get("x")), 7), del("x")),
		strings.Repeat(" ", 1<<20) + "get" + strings.Repeat(" ", 1<<20) + "x": list(get("x")),
	} {
		if got, at, e := ops.Parse(s); e != api.OK || at != 0 || !slices.Equal(got, want) {
			t.Errorf("Parse of %.40q: %+v %d %d", s, got, at, e)
		}
	}
}

// P6.3: texts of no operation that may be asked; each is tried alone, behind others, and ahead of others that are wrong, too.
func TestParseRefused(t *testing.T) {
	l := []string{
		"get", "x", "get x 0", "get x 1", "get x y", "get x get y", "getx", "get ~t", "get ~", "get X", "get x!", "get abcdefghijklmnopq", "get \"x\"", "get x,", "get\tx", "get x\n", "\nget x", "\t", "\n", "\r", "\v", "\u00a0", "get\u00a0x",
		"Get x", "GET x", "got x", "gett x", "ge x", "?", "? x", "1 x", "get x\x00", "\xff", "get \xff", "\x00",
		"del", "del x 0", "del x x", "put", "put x", "put x 5 0", "put x 5 5", "put ~t 5", "put 5 x", "put x x", "put -5 5",
		"put x 05", "put x 00", "put x -0", "put x +5", "put x -05", "put x 5.", "put x 5.0", "put x 5e0", "put x 0x5", "put x 1_0", "put x --5", "put x -", "put x - 5", "put x 5-", "put x ５", "put x 5;5", "put x 1 000",
		"put x 9223372036854775808", "put x -9223372036854775809", "put x 18446744073709551616", "put x " + strings.Repeat("9", 1000), "put x " + strings.Repeat("0", 1000),
		"add x", "add x 1 2", "back x", "back x 1 2", "back x y",
		"min", "min x", "min x 5", "min x 5 5 5", "min x 5 05", "min x 05 5", "min x 5 -0", "min x 5 9223372036854775808", "min ~t 5 5", "min x y 5", "min x 5 y",
		"get x y z a b c d e f", strings.Repeat("get x ", 1000),
	}
	for _, s := range l {
		if strings.Contains(s, ";") {
			if got, at, e := ops.Parse(s); len(got) != 0 || at != 1 || e != api.ErrForm {
				t.Errorf("Parse of %.40q: %+v %d %d", s, got, at, e)
			}
			continue
		}
		for i, text := range []string{s, "get x;" + s, "get x; put y 1 ; " + s} {
			for _, behind := range []string{"", ";get y", "; got", ";", strings.Repeat("; get y", 20)} {
				if got, at, e := ops.Parse(text + behind); len(got) != 0 || at != i || e != api.ErrForm {
					t.Errorf("Parse of %.60q: %+v %d %d", text+behind, got, at, e)
				}
			}
		}
	}
	for s, want := range map[string]int{
		";": 0, " ; ": 0, ";;": 0, ";get x": 0, "get x;": 1, "get x; ": 1, "get x;;get x": 1, "get x; ;get x": 1, "get x;get x;": 2, "; ; ;": 0,
		strings.Repeat("get x;", 8): 8, strings.Repeat("get x;", 100): 100, strings.Repeat("get x;", 70000) + "got": 70000, strings.Repeat(";", 1<<20): 0,
	} {
		if got, at, e := ops.Parse(s); len(got) != 0 || at != want || e != api.ErrForm {
			t.Errorf("Parse of %.40q: %+v %d %d", s, got, at, e)
		}
	}
}

// P6.3: too many, all of which may be asked.
func TestParseTooMany(t *testing.T) {
	for _, n := range []int{9, 10, 64, 65, 70000} {
		s := strings.Repeat("get x;", n-1)
		if got, at, e := ops.Parse(s + "get x"); len(got) != 0 || at != 0 || e != api.ErrLong {
			t.Error(n, "operations:", got, at, e)
		}
		if got, at, e := ops.Parse(s + "get ~t"); len(got) != 0 || at != n-1 || e != api.ErrForm {
			t.Error(n, "operations, the last one the system's:", got, at, e)
		}
	}
}

// P6.6: operations that may be asked are printed and read again, also with blanks where they count for nothing.
func TestTextBack(t *testing.T) {
	r := rand.New(rand.NewSource(66))
	all := slices.Concat(right("x"), right("az09._"), right("abcdefghijklmnop"))
	for range 5000 {
		var l []api.Op
		for range r.Intn(api.MaxOps + 1) {
			l = append(l, all[r.Intn(len(all))])
		}
		s := ops.Print(l...)
		if got, at, e := ops.Parse(s); e != api.OK || at != 0 || !slices.Equal(got, l) {
			t.Fatalf("%q: %+v %d %d", s, got, at, e)
		}
		blanks := func() string { return strings.Repeat(" ", r.Intn(3)) }
		var b strings.Builder
		b.WriteString(blanks())
		for i := range len(s) {
			switch {
			case s[i] == ';':
				b.WriteString(blanks() + ";" + blanks())
			case s[i] != ' ':
				b.WriteByte(s[i])
			case s[i-1] != ';':
				b.WriteString(" " + blanks())
			}
		}
		b.WriteString(blanks())
		if got, at, e := ops.Parse(b.String()); e != api.OK || at != 0 || !slices.Equal(got, l) {
			t.Fatalf("%q: %+v %d %d", b.String(), got, at, e)
		}
	}
}

// P1 and P6.6: of any text something is answered, and what is read and printed is read the same.
func TestParseAnything(t *testing.T) {
	r := rand.New(rand.NewSource(67))
	bits := []string{"get", "put", "del", "add", "min", "back", " ", " ", " ", ";", "x", "~", "~t", "0", "5", "-", "-3", "A", "\xff", "\x00", "é"}
	read := 0
	for range 200000 {
		var b strings.Builder
		for range r.Intn(12) {
			b.WriteString(bits[r.Intn(len(bits))])
		}
		s := b.String()
		l, at, e := ops.Parse(s)
		if e != api.OK {
			if len(l) != 0 || e != api.ErrForm || at < 0 || at > strings.Count(s, ";") {
				t.Fatalf("%q: %+v %d %d", s, l, at, e)
			}
			continue
		}
		if len(l) > 0 {
			read++
		}
		again, _, _ := ops.Parse(ops.Print(l...))
		if at != 0 || ops.Check(l...) != api.OK || !slices.Equal(again, l) || squeezed(s) != squeezed(ops.Print(l...)) {
			t.Fatalf("%q: %+v %d", s, l, at)
		}
	}
	if read < 100 {
		t.Error("too few were read:", read)
	}
}

// squeezed is a text without the blanks that count for nothing.
func squeezed(s string) string {
	var l []string
	for part := range strings.SplitSeq(s, ";") {
		l = append(l, strings.Join(strings.FieldsFunc(part, func(r rune) bool { return r == ' ' }), " "))
	}
	return strings.Join(l, ";")
}
