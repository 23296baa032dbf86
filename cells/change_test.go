package cells_test

import (
	"fmt"
	"maps"
	"math"
	"math/rand"
	"slices"
	"strings"
	"testing"

	"byroad/api"
	"byroad/cells"
	"byroad/ops"
)

// ask is the operations of a text.
func ask(t *testing.T, s string) []api.Op {
	t.Helper()
	l, _, e := ops.Parse(s)
	if e != api.OK {
		t.Fatal(s, e)
	}
	return l
}

// told fails the test, if Run does not answer this.
func told(t *testing.T, c *cells.Cells, l []api.Op, want []int64, at int, e api.Errno) {
	t.Helper()
	got, i, err := c.Run(l...)
	if !slices.Equal(got, want) || i != at || err != e {
		t.Errorf("Run(%s): %v %d %d, not %v %d %d", ops.Print(l...), got, i, err, want, at, e)
	}
}

// P7.2
func TestRun(t *testing.T) {
	c := cells.New(api.Row{Key: "x", N: 2}, api.Row{Key: "a", N: 1})
	told(t, c, ask(t, "add x 3; del a; get y"), []int64{5, 1, 0}, 0, api.OK)
	holds(t, "the chapter's example", c, api.Row{Key: "x", N: 5})
	told(t, c, ask(t, "put z 1; min x -9 0"), nil, 1, api.ErrGuard)
	holds(t, "refused", c, api.Row{Key: "x", N: 5})
	told(t, c, nil, nil, 0, api.OK)
	told(t, c, ask(t, "put y 1; add y 1; min y -2 0; back y 7; get y; del y; get y; add y 4"), []int64{1, 2, 0, 7, 7, 7, 0, 4}, 0, api.OK)
	holds(t, "one behind the other", c, api.Row{Key: "x", N: 5}, api.Row{Key: "y", N: 4})
	told(t, c, ask(t, "get q; del q"), []int64{0, 0}, 0, api.OK)
	holds(t, "get and del make no key", c, api.Row{Key: "x", N: 5}, api.Row{Key: "y", N: 4})
	told(t, c, []api.Op{{Kind: api.Add, Key: "~t", N: 1}}, []int64{1}, 0, api.OK)
	holds(t, "the system's key", c, api.Row{Key: "x", N: 5}, api.Row{Key: "y", N: 4}, api.Row{Key: "~t", N: 1})
}

// P7.2, P7.5: the first operation that has an error is told, and nothing is done.
func TestRunRefused(t *testing.T) {
	was := []api.Row{{Key: "x", N: math.MaxInt64}, {Key: "y", N: 3}}
	c := cells.New(was...)
	for _, x := range []struct {
		l  []api.Op
		at int
		e  api.Errno
	}{
		{ask(t, "add x 1"), 0, api.ErrOver},
		{ask(t, "put y 0; add z -1; add z -9223372036854775808; min y -9 0"), 2, api.ErrOver},
		{ask(t, "del x; del y; min q 4 5; add x 1"), 2, api.ErrGuard},
		{ask(t, "put x 1; put y 2; put z 3; put u 4; put v 5; put w 6; min x -1 1"), 6, api.ErrGuard},
		{append(ask(t, "put x 1"), api.Op{}, api.Op{Kind: 7, Key: "x"}), 1, api.ErrArg},
		{append(ask(t, "del x"), api.Op{Kind: api.Put, Key: ""}), 1, api.ErrArg},
		{[]api.Op{{Kind: api.Get, Key: "X"}}, 0, api.ErrArg},
		{[]api.Op{{Kind: api.Put, Key: "x", N: 1}, {Kind: api.Get, Key: "x", N: 1}}, 1, api.ErrArg},
		{[]api.Op{{Kind: -1, Key: "x"}}, 0, api.ErrArg},
		{[]api.Op{{Kind: api.Put, Key: tooLong}}, 0, api.ErrArg},
	} {
		told(t, c, x.l, nil, x.at, x.e)
		holds(t, ops.Print(x.l...), c, was...)
	}
}

// P7.2: no operation may make a key too many, but within the bound each may.
func TestRunFull(t *testing.T) {
	c := cells.New(many(api.MaxRows - 1)...)
	told(t, c, ask(t, "put a 1; put b 2"), nil, 1, api.ErrFull)
	holds(t, "refused", c, many(api.MaxRows-1)...)
	told(t, c, ask(t, "add k0000 1; put a 1; get b; del b; put a 2; del k0001; put b 5"), []int64{1, 1, 0, 0, 2, 1, 5}, 0, api.OK)
	for _, s := range []string{"put c 0", "add c 0", "min c 0 0", "back c 0"} {
		told(t, c, ask(t, "get c; del c; "+s), nil, 2, api.ErrFull)
	}
	told(t, c, ask(t, "put c 0; del a"), nil, 0, api.ErrFull)
	told(t, c, ask(t, "min c 0 1"), nil, 0, api.ErrGuard)
	told(t, c, ask(t, "del a; put c 9"), []int64{2, 9}, 0, api.OK)
	if c.Len() != api.MaxRows {
		t.Error(c.Len())
	}
}

// P7.2: there may be any number of operations.
func TestRunMany(t *testing.T) {
	c := cells.New()
	l := slices.Repeat(ask(t, "add x 1"), 1000)
	got, _, e := c.Run(l...)
	if e != api.OK || len(got) != 1000 || got[0] != 1 || got[999] != 1000 {
		t.Error(e, len(got))
	}
}

// P7.3
func TestApply(t *testing.T) {
	c := cells.New(api.Row{Key: "a", N: 1}, api.Row{Key: "b", N: 2})
	for _, x := range []struct {
		l    []cells.Change
		e    api.Errno
		want []api.Row
	}{
		{nil, api.OK, []api.Row{{Key: "a", N: 1}, {Key: "b", N: 2}}},
		{[]cells.Change{{Key: "a"}, {Key: "q"}, {"b", 0, true}, {"c", -5, true}}, api.OK, []api.Row{{Key: "b"}, {Key: "c", N: -5}}},
		{[]cells.Change{{"x", 1, true}, {"x", 2, true}, {Key: "b"}, {"y", 1, true}, {Key: "y"}}, api.OK, []api.Row{{Key: "c", N: -5}, {Key: "x", N: 2}}},
		{[]cells.Change{{"x", 9, true}, {Key: "c"}, {"y", 1, false}}, api.ErrArg, []api.Row{{Key: "c", N: -5}, {Key: "x", N: 2}}},
		{[]cells.Change{{Key: tooLong}, {"x", 9, true}}, api.ErrArg, []api.Row{{Key: "c", N: -5}, {Key: "x", N: 2}}},
		{[]cells.Change{{tooLong, 1, true}}, api.ErrArg, []api.Row{{Key: "c", N: -5}, {Key: "x", N: 2}}},
		{[]cells.Change{{long, 1, true}, {"", 3, true}, {"A ~", 4, true}, {Key: "c"}}, api.OK, []api.Row{{N: 3}, {Key: "A ~", N: 4}, {Key: long, N: 1}, {Key: "x", N: 2}}},
		{[]cells.Change{{Key: long}, {Key: ""}}, api.OK, []api.Row{{Key: "A ~", N: 4}, {Key: "x", N: 2}}},
	} {
		if e := c.Apply(x.l...); e != x.e {
			t.Errorf("Apply(%v): %d", x.l, e)
		}
		holds(t, fmt.Sprint(x.l), c, x.want...)
	}
}

// P7.3: at no time may there be a key too many; a change that may not be is told ahead of that.
func TestApplyFull(t *testing.T) {
	was := many(api.MaxRows)
	c := cells.New(was...)
	for _, x := range []struct {
		l []cells.Change
		e api.Errno
	}{
		{[]cells.Change{{"a", 1, true}}, api.ErrFull},
		{[]cells.Change{{"k0000", 9, true}, {"a", 1, true}, {Key: "a"}}, api.ErrFull},
		{[]cells.Change{{Key: "k0001"}, {"a", 1, true}, {"b", 1, true}, {Key: "k0002"}}, api.ErrFull},
		{[]cells.Change{{"a", 1, true}, {Key: "k0002"}}, api.ErrFull},
		{[]cells.Change{{"a", 1, true}, {Key: "k0001", N: 1}}, api.ErrArg},
		{[]cells.Change{{"a", 1, true}, {tooLong, 1, true}}, api.ErrArg},
	} {
		if e := c.Apply(x.l...); e != x.e {
			t.Errorf("Apply(%v): %d", x.l, e)
		}
		holds(t, fmt.Sprint(x.l), c, was...)
	}
	if e := c.Apply(cells.Change{Key: "k0001"}, cells.Change{Key: "a", N: 1, There: true}, cells.Change{Key: "k0002", N: 7, There: true}, cells.Change{Key: "zz"}); e != api.OK {
		t.Error(e)
	}
	if _, ok := c.Get("a"); !ok || c.Len() != api.MaxRows {
		t.Error(ok, c.Len())
	}
}

// step is what one operation does with a map, by the chapter's words.
func step(m map[string]int64, op api.Op) (int64, api.Errno) {
	old, there := m[op.Key]
	n, there, told, e := ops.Eval(op, old, there)
	if e != api.OK {
		return 0, e
	}
	delete(m, op.Key)
	if there {
		m[op.Key] = n
	}
	if len(m) > api.MaxRows {
		return 0, api.ErrFull
	}
	return told, api.OK
}

// anyOp is an operation on one of so many keys; now and then one that may not be.
func anyOp(r *rand.Rand, keys int) api.Op {
	op := api.Op{Kind: r.Intn(6) + 1, Key: fmt.Sprintf("k%d", r.Intn(keys))}
	if op.Kind != api.Get && op.Kind != api.Del {
		op.N = int64(r.Intn(9) - 4)
	}
	switch r.Intn(40) {
	case 0:
		op.Lo = 1
	case 1:
		op.N = math.MaxInt64
	case 2:
		op.N = math.MinInt64
	case 3:
		op.Key = strings.ToUpper(op.Key)
	}
	return op
}

// P7.2, P7.5: all or none, and what is done in one is done in pieces, too.
func TestRunModel(t *testing.T) {
	r := rand.New(rand.NewSource(75))
	for _, keys := range []int{3, 300} {
		c, m := cells.New(), map[string]int64{}
		for n := range 4000 {
			var l []api.Op
			for range r.Intn(8) {
				l = append(l, anyOp(r, keys))
			}
			try, want, at, e := maps.Clone(m), []int64(nil), 0, api.OK
			for i, op := range l {
				var x int64
				if x, e = step(try, op); e != api.OK {
					want, at = nil, i
					break
				}
				want = append(want, x)
			}
			if e == api.OK {
				m = try
			}
			pieces := c.Copy()
			cut := r.Intn(len(l) + 1)
			told(t, c, l, want, at, e)
			if !slices.Equal(c.Rows(), rows(m)) {
				t.Fatal(n, c.Rows(), rows(m))
			}
			one, _, e1 := pieces.Run(l[:cut]...)
			two, _, e2 := pieces.Run(l[cut:]...)
			if e1 == api.OK && e2 == api.OK && (!pieces.Same(c) || !slices.Equal(append(one, two...), want)) {
				t.Fatal(n, "in pieces", pieces.Rows(), c.Rows())
			}
		}
		if keys == 300 && c.Len() < 200 {
			t.Error("the model never came near the bound", c.Len())
		}
	}
}
