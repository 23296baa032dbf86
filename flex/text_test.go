package flex_test

import (
	"fmt"
	"slices"
	"strings"
	"testing"

	"byroad/api"
	"byroad/flex"
)

// exampleText is the example's text.
const exampleText = "sub a 0 comp add x 5 | back x -5\n" +
	"sub b 1 pivot put z 3; get w\n" +
	"sub c9 2 retry put z 3\n" +
	"sub abcdefgh 2 both get w; put z 3 | put z 3; back x -5; get w\n" +
	"path a b\npath a abcdefgh c9\npath c9"

// read fails the test, if s is not the text of p.
func read(t *testing.T, s string, p flex.Spec) {
	t.Helper()
	got, at, e := flex.Parse(s)
	if e != api.OK || at != 0 || !flex.Same(got, p) {
		t.Errorf("Parse(%.300q): %v %d %d, not %v", s, got, at, e, p)
	}
}

// refused fails the test, if s is not answered with that line and that error.
func refused(t *testing.T, s string, line int, want api.Errno) {
	t.Helper()
	got, at, e := flex.Parse(s)
	if e != want || at != line || !flex.Same(got, flex.Spec{}) {
		t.Errorf("Parse(%.300q): %v %d %d, not %d %d", s, got, at, e, line, want)
	}
}

// P23.1
func TestPrint(t *testing.T) {
	if s := flex.Print(example()); s != exampleText {
		t.Errorf("%q", s)
	}
	p := many(12)
	p.Paths = [][]int{{11, 10, 9, 8, 7, 6, 5, 4}, {0}, {0, 0}}
	s := ""
	for i := range 12 {
		s += fmt.Sprint("sub s", i, " 0 pivot get w\n")
	}
	if got := flex.Print(p); got != s+"path s11 s10 s9 s8 s7 s6 s5 s4\npath s0\npath s0 s0" {
		t.Errorf("%q", got)
	}
}

// The document's examples.
func TestDocExample(t *testing.T) {
	w := api.Op{Kind: api.Put, Key: "w", N: 1}
	read(t, "sub a 0 comp add x 5 | back x -5\nsub b 1 pivot put z 3\nsub c 2 retry put w 1\npath a b\npath a c", flex.Spec{
		Subs: []flex.Sub{
			{Name: "a", Site: 0, Type: 1, Do: list(add), Undo: list(back)},
			{Name: "b", Site: 1, Type: 0, Do: list(put)},
			{Name: "c", Site: 2, Type: 2, Do: list(w)},
		},
		Paths: [][]int{{0, 1}, {0, 2}},
	})
}

// P23.2: blanks, lines without a word, and where a bar stands.
func TestParse(t *testing.T) {
	read(t, exampleText, example())
	for _, with := range [][2]string{
		{" ", "  "}, {" ", strings.Repeat(" ", 1000)}, {"\n", "\n\n"}, {"\n", "  \n  "}, {"\n", "\n   \n\n \n"}, {" | ", "|"}, {" | ", "| "}, {" | ", "   |"}, {"; ", ";"}, {"; ", " ;   "},
	} {
		s := strings.ReplaceAll(exampleText, with[0], with[1])
		read(t, s, example())
		read(t, " "+s+" ", example())
		read(t, "\n"+s+"\n", example())
		read(t, strings.Repeat(" \n", 500)+s+strings.Repeat("\n ", 500), example())
	}
	p := many(12)
	p.Paths = [][]int{{11, 10, 9, 8, 7, 6, 5, 4}, {0, 0}, {0}, {0}, {1}, {2}, {3}, {4}}
	read(t, flex.Print(p), p)
	p = flex.Spec{Subs: []flex.Sub{{Name: "sub", Type: 3, Do: list(get, get, get, get, get, get, get, get), Undo: list(put, put, put, put, put, put, put, put)}, {Name: "path", Do: list(get)}}, Paths: [][]int{{1, 0, 0}}}
	read(t, "sub sub 0 both"+strings.Repeat(" get w;", 7)+" get w |"+strings.Repeat("put z 3;", 7)+"put z 3\nsub path 0 pivot get w\npath path sub sub", p)
}

// ahead is lines that are right, ahead of others.
const ahead = "sub a 0 comp add x 5 | back x -5\n\nsub b 1 pivot put z 3\n"

// P23.2: lines that are ErrForm, alone, ahead of others that are wrong too, and behind others that are right.
func TestParseForm(t *testing.T) {
	for _, line := range []string{
		"x", "su", "subs", "Sub", "SUB", "sub\t", "\tsub c 0 pivot get x", "\t", "\r", "\x00", "\xff", "\u00a0", "sub|", "|", "| sub c 0 pivot get x", "sub|c 0 comp get x", "sub,c 0 pivot get x",
		"paths a", "Path a", "path\ta", "path,a", "path|a", "pathb", "a path", "1", "-",
		"sub", "sub c", "sub c 0", "sub c 0 pivot", "sub c 0 comp | get x", "sub | c 0 comp get x", "sub c | 0 comp get x", "sub c 0 | comp get x", "sub |", "sub c 0 retry ",
		"sub C 0 pivot get x", "sub c_ 0 pivot get x", "sub abcdefghi 0 pivot get x", "sub é 0 pivot get x", "sub c\x00 0 pivot get x", "sub ~c 0 pivot get x", "sub c, 0 pivot get x", "sub c. 0 pivot get x",
		"sub c 3 pivot get x", "sub c -1 pivot get x", "sub c 00 pivot get x", "sub c 01 pivot get x", "sub c +1 pivot get x", "sub c -0 pivot get x", "sub c x pivot get x", "sub c 0x1 pivot get x", "sub c 1.0 pivot get x", "sub c 12 pivot get x", "sub c 256 pivot get x", "sub c 4294967297 pivot get x", "sub c １ pivot get x",
		"sub c 0 Pivot get x", "sub c 0 pivo get x", "sub c 0 pivots get x", "sub c 0 get x", "sub c 0 0 get x", "sub c 0 1 get x", "sub c 0 complete get x", "sub c pivot 0 get x", "sub c 0 |comp get x", "sub c 0 comp,retry get x | get x",
		"sub c 0 pivot get x | get x", "sub c 0 retry get x | get x", "sub c 0 pivot get x |", "sub c 0 retry get x|", "sub c 0 pivot | get x",
		"sub c 0 comp get x", "sub c 0 both get x", "sub c 0 comp add x 5; back x -5",
		"sub c 0 pivot got x", "sub c 0 pivot get ~t", "sub c 0 pivot get X", "sub c 0 pivot get x;", "sub c 0 pivot ;get x", "sub c 0 pivot ; get x", "sub c 0 pivot ;", "sub c 0 pivot get", "sub c 0 pivot put x", "sub c 0 pivot put x 05", "sub c 0 pivot get\tx", "sub c 0 pivot get x\r", "sub c 0 pivot get x get y", "sub c 0 pivot get x, get y",
		"sub c 0 comp get x |", "sub c 0 comp get x |  ", "sub c 0 comp got x | get x", "sub c 0 comp get x | got x", "sub c 0 comp get x | get x | get x", "sub c 0 comp get x || get x", "sub c 0 comp get x | get ~t", "sub c 0 both get x; | get x", "sub c 0 both get x | get x;", "sub c 0 both get x | ;",
		"path", "path ", " path  ",
		"sub c 0 pivot got" + strings.Repeat(" x", 1000),
	} {
		refused(t, line, 0, api.ErrForm)
		refused(t, line+"\n"+exampleText, 0, api.ErrForm)
		refused(t, "\n \n"+line, 2, api.ErrForm)
		refused(t, ahead+line, 3, api.ErrForm)
		refused(t, ahead+line+"\npath d\nx", 3, api.ErrForm)
		refused(t, ahead+"path a b\n\n"+line+"\npath b", 5, api.ErrForm)
	}
	refused(t, ahead+"path a b\nsub c 0 pivot get x", 4, api.ErrForm)
	refused(t, ahead+"path a b\n\npath b\n\n\nsub c 0 pivot get x\npath a", 8, api.ErrForm)
	for _, s := range []string{"", " ", "\n", "\n\n  \n", strings.Repeat("\n", 1<<20), ahead, ahead + "\n\n", "sub a 0 pivot get x"} {
		refused(t, s, 0, api.ErrForm)
	}
}

// texts is one text n times, parted by another one.
func texts(n int, s, by string) string {
	return strings.Repeat(s+by, n-1) + s
}

// P23.2: lines that are ErrLong.
func TestParseLong(t *testing.T) {
	for _, n := range []int{9, 10, 64, 65, 10000} {
		refused(t, ahead+"sub c 0 pivot "+texts(n, "get x", ";")+"\nx", 3, api.ErrLong)
		refused(t, ahead+"sub c 0 comp "+texts(n, "get x", ";")+"|get x", 3, api.ErrLong)
		refused(t, ahead+"sub c 0 both get x|"+texts(n, "get x", ";"), 3, api.ErrLong)
		refused(t, ahead+"path a\npath "+texts(n, "a", " "), 4, api.ErrLong)
	}
	s := flex.Print(many(12))
	subs := s[:strings.Index(s, "path")]
	refused(t, subs+"sub c 0 pivot get x\npath c", 12, api.ErrLong)
	refused(t, subs+"\n\nsub c 2 both get x | get x", 14, api.ErrLong)
	refused(t, ahead+texts(9, "path a", "\n"), 11, api.ErrLong)
	refused(t, ahead+texts(12, "path a", "\n\n"), 3+16, api.ErrLong)
	read(t, ahead+texts(8, "path b", "\n"), flex.Spec{Subs: []flex.Sub{example().Subs[0], {Name: "b", Site: 1, Do: list(put)}}, Paths: [][]int{{1}, {1}, {1}, {1}, {1}, {1}, {1}, {1}}})
}

// P23.2: lines that are ErrName.
func TestParseName(t *testing.T) {
	for _, line := range []string{"sub a 0 pivot get x", "sub b 2 both get x | get y", "sub  a  1  retry  put x 1", "sub b 1 pivot put z 3"} {
		refused(t, ahead+line, 3, api.ErrName)
		refused(t, ahead+line+"\n"+line+"\nx", 3, api.ErrName)
	}
	for _, line := range []string{"path c", "path a c", "path c a", "path a b a b a b a c", "path ab", "path a,b", "path A", "path a | b", "path |", "path a|b", "path a\tb", "path a\r", "path sub", "path path", "path 0", "path -", "path \xff", "path abcdefghi"} {
		refused(t, ahead+line, 3, api.ErrName)
		refused(t, ahead+"path a b\n"+line+"\npath", 4, api.ErrName)
	}
	// A subtransaction that stands behind a path is there for none.
	refused(t, "path a\nsub a 0 pivot get x", 0, api.ErrName)
}

// P23.2: of several errors of one line ErrForm is told ahead of ErrLong, and that ahead of ErrName.
func TestParseSeveral(t *testing.T) {
	nine := texts(9, "get x", ";")
	for _, line := range []string{
		"sub a 3 pivot " + nine, "sub A 0 pivot " + nine, "sub a 0 pivots " + nine, "sub a 0 comp " + nine, "sub a 0 pivot " + nine + "|get x",
		"sub c 0 comp " + nine + "| got x", "sub c 0 comp " + nine + "|", "sub c 0 comp got x | " + nine, "sub c 0 comp | " + nine, "sub c 0 pivot " + nine + "; got x", "sub c 0 comp get x | " + nine + "; got x",
		"sub a 0 pivot got x", "sub a 0 comp get x", "sub a 0 pivot", "sub a",
	} {
		refused(t, ahead+line, 3, api.ErrForm)
	}
	for _, line := range []string{"sub a 0 pivot " + nine, "sub b 0 comp get x | " + nine, "path " + texts(9, "c", " "), "path " + texts(8, "a", " ") + " c"} {
		refused(t, ahead+line, 3, api.ErrLong)
	}
	s := flex.Print(many(12))
	subs := s[:strings.Index(s, "path")]
	refused(t, subs+"sub s0 0 pivot get x", 12, api.ErrLong)
	refused(t, subs+"sub s0 0 pivot got x", 12, api.ErrForm)
	refused(t, subs+"sub c 0 comp get x", 12, api.ErrForm)
	refused(t, s+"\nsub c 0 pivot get x", 13, api.ErrForm)
	refused(t, s+"\nsub s0 0 pivot "+nine, 13, api.ErrForm)
	refused(t, ahead+texts(8, "path a", "\n")+"\npath c", 11, api.ErrLong)
	refused(t, ahead+texts(8, "path a", "\n")+"\npath", 11, api.ErrForm)
	refused(t, ahead+texts(8, "path a", "\n")+"\npath "+texts(9, "c", " "), 11, api.ErrLong)
}

// The rules: no list that is answered is shared with another one.
func TestParseShares(t *testing.T) {
	for name, tell := range map[string]func() flex.Spec{
		"Parse":  func() flex.Spec { p, _, _ := flex.Parse(exampleText); return p },
		"Decode": func() flex.Spec { p, _ := flex.Decode(flex.Encode(example())); return p },
	} {
		p, other := tell(), tell()
		for _, s := range p.Subs {
			_, _ = append(s.Do, get), append(s.Undo, get)
		}
		for _, path := range p.Paths {
			_ = append(path, 7)
		}
		if !flex.Same(p, example()) {
			t.Error(name, "appended to", p)
		}
		for i, s := range p.Subs {
			clear(s.Do)
			if i > 0 {
				clear(s.Undo)
			}
		}
		clear(p.Paths[0])
		if !slices.Equal(p.Subs[0].Undo, list(back)) || !slices.Equal(p.Paths[1], []int{0, 3, 2}) {
			t.Error(name, "written into", p)
		}
		if !flex.Same(other, example()) || !flex.Same(tell(), example()) {
			t.Error(name, p)
		}
	}
}
