package cells_test

import (
	"cmp"
	"fmt"
	"maps"
	"math/rand"
	"slices"
	"strings"
	"testing"

	"byroad/api"
	"byroad/cells"
)

// holds fails the test, if the cells do not hold just these rows, by whatever call they are asked.
func holds(t *testing.T, what string, c *cells.Cells, want ...api.Row) {
	t.Helper()
	if got := c.Rows(); !slices.Equal(got, want) {
		t.Errorf("%s: Rows %v, not %v", what, got, want)
	}
	if c.Len() != len(want) {
		t.Errorf("%s: Len %d, not %d", what, c.Len(), len(want))
	}
	for _, row := range want {
		if n, ok := c.Get(row.Key); n != row.N || !ok {
			t.Errorf("%s: Get(%q) %d %v", what, row.Key, n, ok)
		}
	}
}

// many is so many rows, rising.
func many(n int) []api.Row {
	var l []api.Row
	for i := range n {
		l = append(l, api.Row{Key: fmt.Sprintf("k%04d", i), N: int64(i)})
	}
	return l
}

// rows is what a map holds, by rising keys.
func rows(m map[string]int64) []api.Row {
	var l []api.Row
	for _, k := range slices.Sorted(maps.Keys(m)) {
		l = append(l, api.Row{Key: k, N: m[k]})
	}
	return l
}

const (
	long    = "abcdefghijklmnop"
	tooLong = long + "q"
)

// P7.1
func TestNew(t *testing.T) {
	holds(t, "nothing", cells.New())
	holds(t, "two", cells.New(api.Row{Key: "x", N: 2}, api.Row{Key: "a", N: 1}), api.Row{Key: "a", N: 1}, api.Row{Key: "x", N: 2})
	holds(t, "a later row", cells.New(api.Row{Key: "x", N: 2}, api.Row{Key: "y"}, api.Row{Key: "x", N: -3}), api.Row{Key: "x", N: -3}, api.Row{Key: "y"})
	holds(t, "keys of all kinds", cells.New(api.Row{Key: "~t", N: 1}, api.Row{Key: "", N: 2}, api.Row{Key: "\xff", N: 3}, api.Row{Key: "A b", N: 4}),
		api.Row{Key: "", N: 2}, api.Row{Key: "A b", N: 4}, api.Row{Key: "~t", N: 1}, api.Row{Key: "\xff", N: 3})
	holds(t, "keys that are too long", cells.New(api.Row{Key: tooLong, N: 1}, api.Row{Key: long, N: 2}, api.Row{Key: strings.Repeat("x", 300), N: 3}), api.Row{Key: long, N: 2})
}

// P7.1: a row that would be one too many is passed over; one behind it, of a key that is there, is not.
func TestNewFull(t *testing.T) {
	l := many(api.MaxRows)
	holds(t, "full", cells.New(l...), l...)
	more := append(many(api.MaxRows+3), api.Row{Key: "k0000", N: 77}, api.Row{Key: "a", N: 5}, api.Row{Key: "k0255", N: -1})
	want := slices.Clone(l)
	want[0].N, want[255].N = 77, -1
	holds(t, "too many", cells.New(more...), want...)
}

// P7.1
func TestGet(t *testing.T) {
	c := cells.New(api.Row{Key: "b", N: -7}, api.Row{Key: "d"})
	for _, k := range []string{"", "a", "bb", "c", "e", tooLong} {
		if n, ok := c.Get(k); n != 0 || ok {
			t.Errorf("Get(%q): %d %v", k, n, ok)
		}
	}
	if n, ok := c.Get("d"); n != 0 || !ok {
		t.Error("a row of 0", n, ok)
	}
}

// P7.3: the changes that make of the one the other.
func TestDiff(t *testing.T) {
	a := cells.New(api.Row{Key: "a", N: 1}, api.Row{Key: "b", N: 2}, api.Row{Key: "c"}, api.Row{Key: "e", N: 5})
	b := cells.New(api.Row{Key: "b", N: 3}, api.Row{Key: "d"}, api.Row{Key: "e", N: 5})
	for n, x := range []struct {
		from, to *cells.Cells
		want     []cells.Change
	}{
		{a, a, nil},
		{a, a.Copy(), nil},
		{a, b, []cells.Change{{Key: "a"}, {Key: "b", N: 3, There: true}, {Key: "c"}, {Key: "d", There: true}}},
		{b, a, []cells.Change{{"a", 1, true}, {"b", 2, true}, {"c", 0, true}, {Key: "d"}}},
		{cells.New(), b, []cells.Change{{"b", 3, true}, {"d", 0, true}, {"e", 5, true}}},
		{b, cells.New(), []cells.Change{{Key: "b"}, {Key: "d"}, {Key: "e"}}},
		{b, nil, []cells.Change{{Key: "b"}, {Key: "d"}, {Key: "e"}}},
		{cells.New(), nil, nil},
	} {
		if got := x.from.Diff(x.to); !slices.Equal(got, x.want) {
			t.Errorf("%d: %v, not %v", n, got, x.want)
		}
	}
	holds(t, "a", a, api.Row{Key: "a", N: 1}, api.Row{Key: "b", N: 2}, api.Row{Key: "c"}, api.Row{Key: "e", N: 5})
	holds(t, "b", b, api.Row{Key: "b", N: 3}, api.Row{Key: "d"}, api.Row{Key: "e", N: 5})
}

// P7.3
func TestSame(t *testing.T) {
	l := []*cells.Cells{
		cells.New(), cells.New(api.Row{Key: "a"}), cells.New(api.Row{Key: "a", N: 1}), cells.New(api.Row{Key: "b", N: 1}),
		cells.New(api.Row{Key: "a", N: 1}, api.Row{Key: "b", N: 1}), cells.New(api.Row{Key: "a", N: 1}, api.Row{Key: "b", N: 2}),
	}
	for i, c := range l {
		for j, d := range l {
			if c.Same(d) != (i == j) || c.Same(d.Copy()) != (i == j) {
				t.Error(i, j, c.Same(d))
			}
		}
	}
	if !cells.New(api.Row{Key: "a"}, api.Row{Key: "b"}).Same(cells.New(api.Row{Key: "b"}, api.Row{Key: "a"})) {
		t.Error("the order of New is seen")
	}
	if l[1].Same(nil) {
		t.Error("rows are the same as none")
	}
}

// P7.3: a copy goes a way of its own.
func TestCopy(t *testing.T) {
	c := cells.New(many(3)...)
	d := c.Copy()
	d.Apply(cells.Change{Key: "k0000"}, cells.Change{Key: "k0001", N: 9, There: true}, cells.Change{Key: "z", There: true})
	holds(t, "the first", c, many(3)...)
	c.Apply(cells.Change{Key: "k0002", N: 8, There: true}, cells.Change{Key: "k0000"})
	holds(t, "the copy", d, api.Row{Key: "k0001", N: 9}, api.Row{Key: "k0002", N: 2}, api.Row{Key: "z"})
}

// P7.1, P7.3: what a caller writes into a list is seen nowhere.
func TestShared(t *testing.T) {
	l := many(4)
	c := cells.New(l...)
	clear(l)
	got := c.Rows()
	clear(got)
	_ = append(got[:1], api.Row{Key: "x", N: 1})
	holds(t, "rows", c, many(4)...)
	x := []cells.Change{{"k0001", 5, true}, {Key: "k0002"}}
	c.Apply(x...)
	if !slices.Equal(x, []cells.Change{{"k0001", 5, true}, {Key: "k0002"}}) {
		t.Error("the changes are changed", x)
	}
	clear(x)
	clear(c.Diff(cells.New()))
	holds(t, "changes", c, api.Row{Key: "k0000"}, api.Row{Key: "k0001", N: 5}, api.Row{Key: "k0003", N: 3})
}

// P7.6: what tells the two apart makes of the one the other; also where each has all the keys that it may have.
func TestMade(t *testing.T) {
	r := rand.New(rand.NewSource(76))
	for n := range 300 {
		keys := r.Intn(api.MaxRows) + 1
		if n%3 == 0 {
			keys = r.Intn(6) + 1
		}
		pick := func() *cells.Cells {
			var l []api.Row
			for _, row := range many(keys) {
				if r.Intn(3) > 0 {
					l = append(l, api.Row{Key: row.Key, N: int64(r.Intn(3) - 1)})
				}
			}
			return cells.New(l...)
		}
		a, b := pick(), pick()
		x := a.Diff(b)
		if !slices.IsSortedFunc(x, func(x, y cells.Change) int { return cmp.Compare(x.Key, y.Key) }) {
			t.Fatal(n, "not rising", x)
		}
		if len(x) == 0 != a.Same(b) {
			t.Fatal(n, "Same", a.Same(b), x)
		}
		kept := b.Rows()
		if e := a.Apply(x...); e != api.OK || !a.Same(b) || !slices.Equal(b.Rows(), kept) {
			t.Fatal(n, e, a.Rows(), b.Rows())
		}
	}
}

// The chapter's words on nil cells.
func TestNil(t *testing.T) {
	var c *cells.Cells
	if n, ok := c.Get("x"); n != 0 || ok || c.Rows() != nil || c.Len() != 0 || c.Copy() != nil {
		t.Error("something is told")
	}
	if l, at, e := c.Run(api.Op{Kind: api.Put, Key: "x"}); l != nil || at != 0 || e != api.ErrNil {
		t.Error("Run", l, at, e)
	}
	if l, at, e := c.Run(); l != nil || at != 0 || e != api.ErrNil {
		t.Error("Run of nothing", l, at, e)
	}
	if c.Apply() != api.ErrNil || c.Apply(cells.Change{Key: tooLong}) != api.ErrNil {
		t.Error("Apply")
	}
	if c.Diff(nil) != nil || c.Diff(cells.New(many(1)...)) != nil || c.Same(nil) || c.Same(cells.New()) || c.Same(cells.New(many(1)...)) {
		t.Error("Diff, Same")
	}
}

// Cells that nobody made hold nothing, and can be used.
func TestZero(t *testing.T) {
	var c cells.Cells
	holds(t, "nothing", &c)
	if e := c.Apply(cells.Change{Key: "x", N: 1, There: true}); e != api.OK {
		t.Error(e)
	}
	holds(t, "one", &c, api.Row{Key: "x", N: 1})
}
