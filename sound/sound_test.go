package sound_test

import (
	"fmt"
	"math"
	"strings"
	"testing"

	"byroad/api"
	"byroad/flex"
	"byroad/sound"
	"byroad/trie"
)

// subs are subtransactions of all types that are as they should be.
const subs = "sub a 0 comp add x 5 | back x -5\nsub b 1 pivot put z 3\nsub c 2 retry put w 1\nsub d 0 both put v 1 | del v\nsub e 1 pivot min z -3 0\nsub f 2 comp get w | get w"

// spec is the flexible transaction of these lines, which must be right.
func spec(t *testing.T, lines ...string) flex.Spec {
	t.Helper()
	p, at, e := flex.Parse(strings.Join(lines, "\n"))
	if e != api.OK {
		t.Fatal("Parse", lines, at, e)
	}
	return p
}

// paths is the flexible transaction of the usual subtransactions and these paths, each of names.
func paths(t *testing.T, l ...string) flex.Spec {
	t.Helper()
	return spec(t, subs, "path "+strings.Join(l, "\npath "))
}

// well fails the test, if a flexible transaction is not well-formed; else it is its tree.
func well(t *testing.T, p flex.Spec) trie.Trie {
	t.Helper()
	x, at, e := sound.Check(p)
	if want, _ := trie.Build(p.Paths...); e != api.OK || at != 0 || fmt.Sprint(x) != fmt.Sprint(want) {
		t.Fatal("Check", flex.Print(p), x, at, e)
	}
	return x
}

// refused fails the test, if a flexible transaction is not answered with that place and error.
func refused(t *testing.T, p flex.Spec, place int, want api.Errno) {
	t.Helper()
	if x, at, e := sound.Check(p); e != want || at != place || len(x.Nodes) != 0 {
		t.Errorf("Check of\n%s\n%v %d %d, not %d %d", flex.Print(p), x, at, e, place, want)
	}
}

// The document's example.
func TestDocExample(t *testing.T) {
	three := "sub a 0 comp add x 5 | back x -5\nsub b 1 pivot put z 3\nsub c 2 retry put w 1"
	well(t, spec(t, three, "path a b", "path a c"))
	well(t, spec(t, three, "path b a", "path b c"))
	refused(t, spec(t, three, "path b a"), 1, api.ErrStuck)
}

// P25.1: ErrArg.
func TestMayNotBe(t *testing.T) {
	refused(t, flex.Spec{}, 0, api.ErrArg)
	good := func() flex.Spec { return paths(t, "a b", "a c") }
	for name, spoil := range map[string]func(*flex.Spec){
		"no subtransactions": func(p *flex.Spec) { p.Subs = nil },
		"no paths":           func(p *flex.Spec) { p.Paths = nil },
		"an empty path":      func(p *flex.Spec) { p.Paths[1] = nil },
		"no such place":      func(p *flex.Spec) { p.Paths[1][1] = 6 },
		"a place below":      func(p *flex.Spec) { p.Paths[1][1] = -1 },
		"a long path":        func(p *flex.Spec) { p.Paths[1] = make([]int, 9) },
		"many paths":         func(p *flex.Spec) { p.Paths = make([][]int, 9) },
		"two of one name":    func(p *flex.Spec) { p.Subs[5].Name = "a" },
		"a name that is no":  func(p *flex.Spec) { p.Subs[5].Name = "F" },
		"a site":             func(p *flex.Spec) { p.Subs[5].Site = 3 },
		"a type":             func(p *flex.Spec) { p.Subs[5].Type = 4 },
		"a type below":       func(p *flex.Spec) { p.Subs[5].Type = -1 },
		"no operations":      func(p *flex.Spec) { p.Subs[5].Do = nil },
		"no undo":            func(p *flex.Spec) { p.Subs[5].Undo = nil },
		"an undo":            func(p *flex.Spec) { p.Subs[2].Undo = []api.Op{{Kind: api.Get, Key: "x"}} },
		"an operation":       func(p *flex.Spec) { p.Subs[5].Do[0].Kind = 7 },
		"a key":              func(p *flex.Spec) { p.Subs[5].Undo[0].Key = "~x" },
	} {
		p := good()
		spoil(&p)
		if _, at, e := sound.Check(p); e != api.ErrArg || at != 0 || sound.Takes(p) {
			t.Error(name, at, e)
		}
		p.Subs = append([]flex.Sub{{Name: "zz", Type: flex.Retry, Do: []api.Op{{Kind: api.Add, Key: "x"}}}}, p.Subs...)
		if _, at, e := sound.Check(p); name != "no subtransactions" && name != "no such place" && name != "a place below" && (e != api.ErrArg || at != 0) {
			t.Error(name, "ahead of ErrType", at, e)
		}
	}
	well(t, good())
}

// P25.1: ErrType.
func TestTypes(t *testing.T) {
	for _, w := range []struct {
		sub   string
		wrong bool
	}{
		{"pivot add x 1; min x 1 0; put x 1; get x; del x; back x 1", false},
		{"comp add x 1; min x 1 0; put x 1; get x; del x; back x 1 | get x; put x 1; del x; back x 1", false},
		{"comp get x | add x 1", true},
		{"comp get x | min x 1 0", true},
		{"comp get x | get x; back x 1; add x 1", true},
		{"retry get x; put x 1; del x; back x 1", false},
		{"retry add x 1", true},
		{"retry min x 1 0", true},
		{"retry get x; put x 1; del x; back x 1; min x 0 0", true},
		{"both get x; put x 1; del x; back x 1 | back x 1; del x; put x 1; get x", false},
		{"both add x 1 | get x", true},
		{"both min x 1 0 | get x", true},
		{"both get x | add x 1", true},
		{"both get x | min x 1 0", true},
		{"both add x 1 | add x 1", true},
	} {
		for place := range 4 {
			l := []string{"sub a 0 comp add x 5 | back x -5", "sub b 0 pivot add x 1", "sub c 2 both get x | get x"}
			l = append(l[:place:place], append([]string{"sub q 1 " + w.sub}, l[place:]...)...)
			l = append(l, "path a", "path q") // also where no path goes to it
			p := spec(t, l...)
			p.Paths = p.Paths[:1]
			if !w.wrong {
				well(t, p)
				continue
			}
			refused(t, p, place, api.ErrType)
			p.Subs[3].Type, p.Subs[3].Undo, p.Subs[3].Do = flex.Retry, nil, []api.Op{{Kind: api.Add, Key: "x"}}
			refused(t, p, place, api.ErrType) // the first one
			p.Paths = [][]int{{0}, {0}}
			refused(t, p, place, api.ErrType) // ahead of ErrPath
			p.Paths = [][]int{{1, 0}}
			refused(t, p, place, api.ErrType) // and of ErrStuck
		}
	}
}

// P25.1: the error of the tree.
func TestTree(t *testing.T) {
	for _, wrong := range [][]string{{"a", "a"}, {"a b", "a"}, {"a", "a b"}, {"a b", "c", "a c"}, {"a a"}, {"b a b"}, {"b a", "b a"}, {"b a", "c", "b c"}} {
		refused(t, paths(t, wrong...), 0, api.ErrPath)
	}
	refused(t, paths(t, "b a", "c", "c"), 0, api.ErrPath) // ahead of ErrStuck
}

// P25.1: ErrStuck.
func TestStuck(t *testing.T) {
	for _, w := range []struct {
		paths string
		node  int // 0: it is well-formed
	}{
		{"a", 0}, {"b", 0}, {"c", 0}, {"d", 0},
		{"a b", 0}, {"a c", 0}, {"d b", 0},
		{"a f", 0}, {"a f e", 0}, {"a d f b", 0}, // all ahead of the end can be taken back
		{"b a", 1}, {"b e", 1}, {"c a", 1}, {"c b", 1}, // nothing behind what stays is sure
		{"b c", 0}, {"b d", 0}, {"c d", 0}, {"b c d", 0}, {"c d b", 1}, {"b d c", 0},
		{"b d a", 1}, {"b d e", 1}, {"b c a", 1}, // the end is not sure, also of c
		{"b a,b c", 0}, {"b c,b a", 1}, {"b c,b d", 0}, {"b a,b e,b c", 0}, {"b a,b c,b e", 1}, // the last kid counts
		{"b a e,b c", 0}, {"b e a,b c", 2}, {"b e c,b c", 0}, {"b a e d,b c", 0}, {"b a e f,b c", 3}, // whatever stays below is asked too
		{"a b f,c", 2}, {"a,b c,b f", 2}, {"a b c,a e f,a c", 4}, {"a b f,a e f", 2}, {"a f,b f,e f", 3},
		{"a f e c,a d b c,c", 0}, {"a f e c,a d b a", -1},
		{"b d a,b d c", 0}, {"b d c,b d a", 1}, {"b d a,b d e", 1},
		{"c a b,c d", 0}, {"c a b f,c d", 3}, {"c b d f,c b d c", -1},
	} {
		switch p := paths(t, strings.Split(w.paths, ",")...); w.node {
		case 0:
			well(t, p)
		case -1:
			refused(t, p, 0, api.ErrPath) // one element twice
		default:
			refused(t, p, w.node, api.ErrStuck)
		}
	}
}

// P25.2: Safe and Anchor, also of one that is not well-formed.
func TestSafeAndAnchor(t *testing.T) {
	p := paths(t, "a b d e", "a b d c", "a e f", "a e b", "c")
	x, e := trie.Build(p.Paths...)
	if e != api.OK || len(x.Nodes) != 10 {
		t.Fatal(x, e)
	}
	refused(t, p, 6, api.ErrStuck)
	// nodes: 0 root, 1 a, 2 b, 3 d, 4 e, 5 c, 6 e, 7 f, 8 b, 9 c
	safe := []bool{true, false, true, true, true, true, false, true, true, true}
	anchor := []int{0, 0, 2, 2, 4, 5, 6, 6, 8, 9}
	for n := range x.Nodes {
		if sound.Safe(p, x, n) != safe[n] || sound.Anchor(p, x, n) != anchor[n] {
			t.Error(n, sound.Safe(p, x, n), sound.Anchor(p, x, n))
		}
	}
	for _, n := range []int{-1, 10, math.MinInt, math.MaxInt} {
		if sound.Safe(p, x, n) || sound.Anchor(p, x, n) != -1 {
			t.Error("no node", n)
		}
	}
	q := paths(t, "a", "b")
	if x := well(t, q); sound.Safe(q, x, 0) || sound.Anchor(q, x, 0) != 0 {
		t.Error("the root")
	}
}

// P25.2: Takes.
func TestTakes(t *testing.T) {
	for _, w := range []struct {
		sub  string
		want bool
	}{
		{"comp add x 5 | back x -5", true},
		{"comp add x 5 | back x 5", false},
		{"comp add x 5; add y 1 | back y -1; back x -5", true},
		{"comp add x 5; add y 1 | back x -5", false},
		{"comp get x | get x", true},
		{"comp get x | put x 1", false},
		{"comp put x 1 | del x", false},
		{"both back x 3 | back x -3", true},
		{"both back x 3 | back x -2", false},
		{"both put x 3 | get x", false},
		{"comp add x 1 | add x -1", false},
		{"pivot put x 1", true},
		{"retry put x 1", true},
		{"retry add x 1", true}, // it may be, though it is not well-formed
	} {
		for _, l := range [][]string{{"sub q 1 " + w.sub, "sub r 0 comp add x 1 | back x -1"}, {"sub r 0 comp add x 1 | back x -1", "sub q 1 " + w.sub}} {
			if p := spec(t, append(l, "path r")...); sound.Takes(p) != w.want {
				t.Error(w.sub)
			}
		}
	}
	if q := spec(t, "sub a 0 comp add x 5 | back x -5\nsub b 1 pivot put z 3", "path b a"); !sound.Takes(q) {
		t.Error("one that is stuck")
	}
}
