package flex_test

import (
	"fmt"
	"math"
	"slices"
	"strings"
	"testing"

	"byroad/api"
	"byroad/flex"
)

// The operations of the tests.
var (
	add  = api.Op{Kind: api.Add, Key: "x", N: 5}
	back = api.Op{Kind: api.Back, Key: "x", N: -5}
	put  = api.Op{Kind: api.Put, Key: "z", N: 3}
	get  = api.Op{Kind: api.Get, Key: "w"}
)

// list is a list of operations.
func list(l ...api.Op) []api.Op { return l }

// example is a flexible transaction that may be, with a subtransaction of each type.
func example() flex.Spec {
	return flex.Spec{
		Subs: []flex.Sub{
			{Name: "a", Site: 0, Type: flex.Comp, Do: list(add), Undo: list(back)},
			{Name: "b", Site: 1, Type: flex.Pivot, Do: list(put, get)},
			{Name: "c9", Site: 2, Type: flex.Retry, Do: list(put)},
			{Name: "abcdefgh", Site: 2, Type: flex.Both, Do: list(get, put), Undo: list(put, back, get)},
		},
		Paths: [][]int{{0, 1}, {0, 3, 2}, {2}},
	}
}

// many is a flexible transaction of so many subtransactions, and a path of the first one.
func many(n int) flex.Spec {
	p := flex.Spec{Paths: [][]int{{0}}}
	for i := range n {
		p.Subs = append(p.Subs, flex.Sub{Name: fmt.Sprint("s", i), Do: list(get)})
	}
	return p
}

// may fails the test, if May does not answer just that, or Print or Encode goes another way.
func may(t *testing.T, what string, p flex.Spec, want bool) {
	t.Helper()
	if flex.May(p) != want {
		t.Errorf("%s: May(%v) is not %v", what, p, want)
	}
	if s := flex.Print(p); (s != "") != want {
		t.Errorf("%s: Print(%v): %q", what, p, s)
	}
	if b := flex.Encode(p); (len(b) > 0) != want {
		t.Errorf("%s: Encode(%v): %x", what, p, b)
	}
}

// P23.1: how many subtransactions and paths there may be, and how long a path.
func TestMayHowMany(t *testing.T) {
	may(t, "the example", example(), true)
	may(t, "nothing", flex.Spec{}, false)
	may(t, "no subtransaction", flex.Spec{Paths: [][]int{{0}}}, false)
	may(t, "no path", flex.Spec{Subs: example().Subs}, false)
	for n := range 40 {
		may(t, fmt.Sprint(n, " subtransactions"), many(n), n >= 1 && n <= 12)
		p := example()
		p.Paths = slices.Repeat([][]int{{1}}, n)
		may(t, fmt.Sprint(n, " paths"), p, n >= 1 && n <= 8)
		p.Paths = [][]int{{2}, slices.Repeat([]int{1}, n)}
		may(t, fmt.Sprint("a path of ", n), p, n >= 1 && n <= 8)
	}
}

// P23.1: a path has places that there are.
func TestMayPlaces(t *testing.T) {
	for _, at := range []int{math.MinInt, -2, -1, 0, 1, 2, 3, 4, 5, 11, 12, 255, 1 << 32, math.MaxInt} {
		p := example()
		p.Paths[1][2] = at
		may(t, fmt.Sprint("the place ", at), p, at >= 0 && at <= 3)
		p = many(12)
		p.Paths = append(p.Paths, []int{3, at})
		may(t, fmt.Sprint("the place ", at), p, at >= 0 && at <= 11)
	}
}

// P23.1: names.
func TestMayNames(t *testing.T) {
	right := []string{"d", "z", "0", "9", "abcdefgi", "12345678", "sub", "path", "a1", "1a"}
	wrong := []string{"", "abcdefghi", "A", "aB", "a b", " a", "a ", "a|", "|", ".", "_", "-", "~a", "a\n", "a\t", "a\x00", "\xff", "é", "`", "{", "/", ":", "１", strings.Repeat("a", 1<<16)}
	for i := range 4 {
		for _, name := range append(right, wrong...) {
			p := example()
			p.Subs[i].Name = name
			may(t, fmt.Sprintf("the name %.20q", name), p, slices.Contains(right, name))
		}
		for k := range 4 {
			p := example()
			p.Subs[i].Name = p.Subs[k].Name
			may(t, fmt.Sprint("one name at ", i, k), p, i == k)
			p.Subs[i] = p.Subs[k]
			may(t, fmt.Sprint("the same at ", i, k), p, i == k)
		}
	}
	for c := range 256 {
		s := string([]byte{byte(c)})
		want := strings.Contains("abcdefghijklmnopqrstuvwxyz0123456789", s)
		for _, name := range []string{"d" + s, s + "d"} {
			p := example()
			p.Subs[1].Name = name
			may(t, fmt.Sprintf("the name %q", name), p, want)
		}
	}
}

// P23.1: sites and types.
func TestMaySitesAndTypes(t *testing.T) {
	for _, n := range []int{math.MinInt, -4, -3, -2, -1, 0, 1, 2, 3, 4, 5, 7, 255, 256, 1 << 32, math.MaxInt} {
		for i := range 4 {
			p := example()
			p.Subs[i].Site = n
			may(t, fmt.Sprint("the site ", n), p, n >= 0 && n <= 2)
		}
		for _, undo := range [][]api.Op{nil, {}, {back}} {
			p := example()
			p.Subs[1].Type, p.Subs[1].Undo = n, undo
			may(t, fmt.Sprint("the type ", n, len(undo)), p, (n == 0 || n == 2) && len(undo) == 0 || (n == 1 || n == 3) && len(undo) == 1)
		}
		s := flex.Sub{Type: n}
		if s.Undoable() != (n == 1 || n == 3) || s.Sure() != (n == 2 || n == 3) {
			t.Error("the type", n, s.Undoable(), s.Sure())
		}
	}
	if flex.Pivot != 0 || flex.Comp != 1 || flex.Retry != 2 || flex.Both != 3 {
		t.Error("the types' numbers")
	}
}

// P23.1: operations.
func TestMayOperations(t *testing.T) {
	for _, i := range []int{0, 1, 2, 3} {
		for n := range 20 {
			p := example()
			p.Subs[i].Do = slices.Repeat(list(get), n)
			may(t, fmt.Sprint(n, " operations of ", i), p, n >= 1 && n <= 8)
			p = example()
			p.Subs[i].Undo = slices.Repeat(list(get), n)
			may(t, fmt.Sprint(n, " operations behind a bar of ", i), p, n >= 1 && n <= 8 && (i == 0 || i == 3) || n == 0 && (i == 1 || i == 2))
		}
	}
	for _, op := range list(api.Op{}, api.Op{Kind: 7, Key: "x"}, api.Op{Kind: api.Get, Key: "~t"}, api.Op{Kind: api.Put, Key: "X"}, api.Op{Kind: api.Get, Key: "x", N: 1},
		api.Op{Kind: api.Put, Key: "x", Lo: 1}, api.Op{Kind: api.Put, Key: strings.Repeat("x", 17)}, api.Op{Kind: -1, Key: "x"}) {
		for i := range 4 {
			p := example()
			p.Subs[i].Do = list(get, op)
			may(t, fmt.Sprint(op, " of ", i), p, false)
			p = example()
			p.Subs[i].Undo = list(op)
			may(t, fmt.Sprint(op, " behind a bar of ", i), p, false)
		}
	}
}

// P23.1: the same of everything, also of what may not be; an empty list is as none.
func TestSame(t *testing.T) {
	others := map[string]func(*flex.Spec){
		"a name":                 func(p *flex.Spec) { p.Subs[1].Name = "d" },
		"a site":                 func(p *flex.Spec) { p.Subs[1].Site = 7 },
		"a type":                 func(p *flex.Spec) { p.Subs[1].Type = -1 },
		"a kind":                 func(p *flex.Spec) { p.Subs[1].Do[0].Kind = api.Back },
		"a key":                  func(p *flex.Spec) { p.Subs[1].Do[1].Key = "v" },
		"an N":                   func(p *flex.Spec) { p.Subs[1].Do[0].N++ },
		"a Lo":                   func(p *flex.Spec) { p.Subs[3].Undo[1].Lo++ },
		"one operation less":     func(p *flex.Spec) { p.Subs[1].Do = p.Subs[1].Do[:1] },
		"no operation":           func(p *flex.Spec) { p.Subs[1].Do = nil },
		"one in an undo more":    func(p *flex.Spec) { p.Subs[1].Undo = list(back) },
		"another undo":           func(p *flex.Spec) { p.Subs[0].Undo[0].N = 5 },
		"one less":               func(p *flex.Spec) { p.Subs = p.Subs[:3] },
		"no subtransaction":      func(p *flex.Spec) { p.Subs = nil },
		"the other way round":    func(p *flex.Spec) { slices.Reverse(p.Subs) },
		"a place":                func(p *flex.Spec) { p.Paths[1][1] = 2 },
		"a place more":           func(p *flex.Spec) { p.Paths[0] = append(p.Paths[0], 2) },
		"a path more":            func(p *flex.Spec) { p.Paths = append(p.Paths, nil) },
		"a path less":            func(p *flex.Spec) { p.Paths = p.Paths[:2] },
		"no path":                func(p *flex.Spec) { p.Paths = nil },
		"a path without places":  func(p *flex.Spec) { p.Paths[2] = nil },
		"paths by another order": func(p *flex.Spec) { slices.Reverse(p.Paths) },
	}
	for what, change := range others {
		p := example()
		change(&p)
		if flex.Same(p, example()) || flex.Same(example(), p) || !flex.Same(p, p) {
			t.Error(what)
		}
	}
	p := example()
	p.Subs[1].Undo, p.Subs[2].Undo = []api.Op{}, list(put)[:0]
	if !flex.Same(p, example()) || !flex.Same(example(), p) {
		t.Error("empty undos")
	}
	p, q := example(), example()
	p.Subs[0].Do, q.Subs[0].Do, p.Paths[1], q.Paths[1] = nil, []api.Op{}, []int{}, nil
	if !flex.Same(p, q) || !flex.Same(q, p) || !flex.Same(flex.Spec{}, flex.Spec{Subs: []flex.Sub{}, Paths: [][]int{}}) {
		t.Error("empty lists")
	}
}

// The rules: nothing that is handed in is changed.
func TestNothingChanged(t *testing.T) {
	p := example()
	flex.May(p)
	flex.Print(p)
	flex.Same(p, example())
	clear(flex.Encode(p))
	if !flex.Same(p, example()) {
		t.Error(p)
	}
}
