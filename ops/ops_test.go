package ops_test

import (
	"math"
	"math/big"
	"math/rand"
	"slices"
	"strings"
	"testing"

	"byroad/api"
	"byroad/ops"
)

const (
	lo = math.MinInt64
	hi = math.MaxInt64
)

// Operations, each of its kind.
func get(key string) api.Op           { return api.Op{Kind: api.Get, Key: key} }
func put(key string, n int64) api.Op  { return api.Op{Kind: api.Put, Key: key, N: n} }
func del(key string) api.Op           { return api.Op{Kind: api.Del, Key: key} }
func add(key string, n int64) api.Op  { return api.Op{Kind: api.Add, Key: key, N: n} }
func back(key string, n int64) api.Op { return api.Op{Kind: api.Back, Key: key, N: n} }
func least(key string, n, lo int64) api.Op {
	return api.Op{Kind: api.Min, Key: key, N: n, Lo: lo}
}

// list is a list of operations.
func list(l ...api.Op) []api.Op { return l }

// The keys that there may be, and some that there may not.
var (
	anybodys = []string{"a", "z", "0", "9", ".", "_", "abcdefghijklmnop", "a.b_c9", "................", "az09._"}
	systems  = []string{"~a", "~9", "~.", "~_", "~abcdefghijklmno", "~t"}
	nobodys  = []string{"", "~", "A", "Z", "aB", "-", "a-b", "a b", " a", "a ", "a;", "abcdefghijklmnopq", "~abcdefghijklmnop", "~~a", "a~", "~A", "~ a",
		"a\n", "a\x00", "\x00", "\xff", "a\xff", "ä", "`", "{", "/", ":", "^", "|", "é", "１", strings.Repeat("a", 1<<16)}
)

// Operations that may not be on a key that may.
func wrong(key string) []api.Op {
	return list(
		api.Op{}, api.Op{Key: key}, api.Op{Kind: -1, Key: key}, api.Op{Kind: 7, Key: key}, api.Op{Kind: math.MaxInt, Key: key}, api.Op{Kind: math.MinInt, Key: key},
		api.Op{Kind: api.Get, Key: key, N: 1}, api.Op{Kind: api.Get, Key: key, N: lo}, api.Op{Kind: api.Get, Key: key, Lo: 1}, api.Op{Kind: api.Get, Key: key, Lo: -1},
		api.Op{Kind: api.Del, Key: key, N: 1}, api.Op{Kind: api.Del, Key: key, N: -1}, api.Op{Kind: api.Del, Key: key, Lo: hi},
		api.Op{Kind: api.Put, Key: key, N: 1, Lo: 1}, api.Op{Kind: api.Add, Key: key, N: 1, Lo: -1}, api.Op{Kind: api.Back, Key: key, N: 1, Lo: 1},
		api.Op{Kind: api.Put, Key: key, Lo: 1}, api.Op{Kind: api.Add, Key: key, Lo: lo}, api.Op{Kind: api.Back, Key: key, Lo: hi},
	)
}

// right is an operation of each kind that may be, if its key may.
func right(key string) []api.Op {
	return list(get(key), del(key), put(key, 0), put(key, lo), put(key, hi), add(key, 0), add(key, -5), add(key, hi), back(key, 0), back(key, lo),
		least(key, 0, 0), least(key, lo, hi), least(key, hi, lo), least(key, -3, 0), least(key, 3, -1))
}

// P6.1
func TestKey(t *testing.T) {
	for _, s := range anybodys {
		if !ops.Key(s) {
			t.Errorf("%q is no key", s)
		}
	}
	for _, s := range slices.Concat(systems, nobodys) {
		if ops.Key(s) {
			t.Errorf("%q is a key", s)
		}
	}
	for c := range 256 {
		s := string([]byte{byte(c)})
		want := strings.Contains("abcdefghijklmnopqrstuvwxyz0123456789._", s)
		if ops.Key(s) != want || ops.Key("k"+s) != want || ops.Key(s+"k") != want || ops.May(get("~"+s)) != want || ops.May(get(s)) != want || ops.May(get("~k"+s)) != want {
			t.Errorf("the byte %q", s)
		}
	}
	for n := range 40 {
		if ops.Key(strings.Repeat("k", n)) != (n >= 1 && n <= api.MaxKey) {
			t.Error("a key of", n)
		}
		if ops.May(get("~"+strings.Repeat("k", n))) != (n >= 1 && n < api.MaxKey) {
			t.Error("the system's key of", n+1)
		}
	}
}

// P6.1
func TestMayAndCheck(t *testing.T) {
	for _, key := range anybodys {
		for _, op := range right(key) {
			if !ops.May(op) || ops.Check(op) != api.OK {
				t.Errorf("%+v may not be", op)
			}
		}
		for _, op := range wrong(key) {
			if ops.May(op) || ops.Check(op) != api.ErrArg {
				t.Errorf("%+v may be", op)
			}
		}
	}
	for _, key := range systems {
		for _, op := range right(key) {
			if !ops.May(op) || ops.Check(op) != api.ErrArg {
				t.Errorf("%+v: %v %d", op, ops.May(op), ops.Check(op))
			}
		}
		for _, op := range wrong(key) {
			if ops.May(op) {
				t.Errorf("%+v may be", op)
			}
		}
	}
	for _, key := range nobodys {
		for _, op := range right(key) {
			if ops.May(op) || ops.Check(op) != api.ErrArg {
				t.Errorf("%+v may be", op)
			}
		}
	}
}

// P6.1: Check of several; too many is told ahead of one that may not be asked.
func TestCheckSeveral(t *testing.T) {
	if ops.Check() != api.OK || ops.Check(list()...) != api.OK {
		t.Error("none")
	}
	var l []api.Op
	for n := 1; n < 20; n++ {
		l = append(l, add("k", int64(n)))
		want := api.OK
		if n > api.MaxOps {
			want = api.ErrLong
		}
		if e := ops.Check(l...); e != want {
			t.Error(n, "operations:", e)
		}
		for i := range l {
			spoilt := slices.Clone(l)
			spoilt[i].Key = "~k"
			if e := ops.Check(spoilt...); want == api.OK && e != api.ErrArg || want != api.OK && e != want {
				t.Error(n, "operations, one that may not be asked at", i, e)
			}
		}
	}
}

// P6.1
func TestTotal(t *testing.T) {
	if !ops.Total() {
		t.Error("none")
	}
	sure := list(get("k"), put("k", 1), del("k"), back("k", 1))
	if !ops.Total(sure...) {
		t.Error("all that are")
	}
	for _, op := range sure {
		if !ops.Total(op) {
			t.Errorf("%+v", op)
		}
	}
	for _, op := range list(add("k", 1), least("k", 1, 1), add("k", 0), api.Op{}, api.Op{Kind: 7, Key: "k"}, api.Op{Kind: -1, Key: "k"}) {
		if ops.Total(op) || ops.Total(append(slices.Clone(sure), op)...) || ops.Total(append(list(op), sure...)...) {
			t.Errorf("%+v", op)
		}
	}
}

// P6.2
func TestEval(t *testing.T) {
	for _, c := range []struct {
		op    api.Op
		old   int64
		there bool
		n     int64
		holds bool
		told  int64
		e     api.Errno
	}{
		{get("k"), 7, true, 7, true, 7, api.OK},
		{get("k"), 0, true, 0, true, 0, api.OK},
		{get("k"), 7, false, 0, false, 0, api.OK},
		{get("~k"), lo, true, lo, true, lo, api.OK},
		{put("k", 5), 7, true, 5, true, 5, api.OK},
		{put("k", 5), 7, false, 5, true, 5, api.OK},
		{put("k", 0), 7, true, 0, true, 0, api.OK},
		{put("k", lo), 0, false, lo, true, lo, api.OK},
		{del("k"), 7, true, 0, false, 7, api.OK},
		{del("k"), 7, false, 0, false, 0, api.OK},
		{add("k", 5), 7, true, 12, true, 12, api.OK},
		{add("k", 5), 7, false, 5, true, 5, api.OK},
		{add("k", 0), 7, false, 0, true, 0, api.OK},
		{add("k", 1), hi - 1, true, hi, true, hi, api.OK},
		{add("k", 1), hi, true, hi, true, 0, api.ErrOver},
		{add("k", 1), hi, false, 1, true, 1, api.OK},
		{add("k", -1), lo + 1, true, lo, true, lo, api.OK},
		{add("k", -1), lo, true, lo, true, 0, api.ErrOver},
		{add("k", 0), lo, true, lo, true, lo, api.OK},
		{add("k", lo), lo, true, lo, true, 0, api.ErrOver},
		{add("k", lo), 0, true, lo, true, lo, api.OK},
		{add("k", lo), hi, true, -1, true, -1, api.OK},
		{add("k", lo), -1, true, -1, true, 0, api.ErrOver},
		{add("k", hi), hi, true, hi, true, 0, api.ErrOver},
		{add("k", lo), 0, false, lo, true, lo, api.OK},
		{least("k", -3, 0), 4, true, 1, true, 1, api.OK},
		{least("k", -3, 0), 3, true, 0, true, 0, api.OK},
		{least("k", -3, 0), 2, true, 2, true, 0, api.ErrGuard},
		{least("k", -3, 0), 9, false, 0, false, 0, api.ErrGuard},
		{least("k", -3, -3), 9, false, -3, true, -3, api.OK},
		{least("k", 1, 5), 4, true, 5, true, 5, api.OK},
		{least("k", 1, 5), 3, true, 3, true, 0, api.ErrGuard},
		{least("k", 1, lo), hi, true, hi, true, 0, api.ErrOver},
		{least("k", 1, hi), hi, true, hi, true, 0, api.ErrOver},
		{least("k", -1, hi), lo, true, lo, true, 0, api.ErrOver},
		{least("k", -1, 0), lo, true, lo, true, 0, api.ErrOver},
		{least("k", 0, hi), hi, true, hi, true, hi, api.OK},
		{back("k", 5), 7, true, 12, true, 12, api.OK},
		{back("k", 5), 7, false, 5, true, 5, api.OK},
		{back("k", 1), hi, true, lo, true, lo, api.OK},
		{back("k", -1), lo, true, hi, true, hi, api.OK},
		{back("k", lo), lo, true, 0, true, 0, api.OK},
		{back("k", 0), 0, false, 0, true, 0, api.OK},
	} {
		if n, holds, told, e := ops.Eval(c.op, c.old, c.there); n != c.n || holds != c.holds || told != c.told || e != c.e {
			t.Errorf("%+v of %d %v: %d %v %d %d", c.op, c.old, c.there, n, holds, told, e)
		}
	}
}

// P6.2: an operation that may not be.
func TestEvalRefused(t *testing.T) {
	l := wrong("k")
	for _, key := range nobodys {
		l = append(l, right(key)...)
	}
	for _, op := range l {
		for _, there := range []bool{false, true} {
			if n, holds, told, e := ops.Eval(op, 7, there); n != 0 || holds || told != 0 || e != api.ErrArg {
				t.Errorf("%+v: %d %v %d %d", op, n, holds, told, e)
			}
		}
	}
}

// P6.2, P6.7: whatever the numbers; a total operation never fails.
func TestEvalSums(t *testing.T) {
	r := rand.New(rand.NewSource(6))
	edge := []int64{lo, lo + 1, -2, -1, 0, 1, 2, hi - 1, hi}
	number := func() int64 {
		if r.Intn(2) == 0 {
			return edge[r.Intn(len(edge))]
		}
		return int64(r.Uint64())
	}
	for range 20000 {
		old, n, guard, there := number(), number(), number(), r.Intn(4) > 0
		was := old
		if !there {
			was = 0
		}
		sum := new(big.Int).Add(big.NewInt(was), big.NewInt(n))
		want := api.OK
		if !sum.IsInt64() {
			want = api.ErrOver
		}
		sums(t, add("k", n), old, there, was, sum, want)
		if want == api.OK && sum.Cmp(big.NewInt(guard)) < 0 {
			want = api.ErrGuard
		}
		sums(t, least("k", n, guard), old, there, was, sum, want)
		wrapped := new(big.Int).And(sum, new(big.Int).SetUint64(math.MaxUint64)).Uint64()
		sums(t, back("k", n), old, there, was, big.NewInt(int64(wrapped)), api.OK)
		for _, op := range right("~k") {
			if _, _, _, e := ops.Eval(op, old, there); ops.Total(op) && e != api.OK {
				t.Fatalf("%+v of %d fails: %d", op, old, e)
			}
		}
	}
}

// sums: the operation comes to that sum, or, with an error, changes nothing.
func sums(t *testing.T, op api.Op, old int64, there bool, was int64, sum *big.Int, want api.Errno) {
	t.Helper()
	n, holds, told, e := ops.Eval(op, old, there)
	if e != want || e == api.OK && (n != sum.Int64() || !holds || told != n) || e != api.OK && (n != was || holds != there || told != 0) {
		t.Fatalf("%+v of %d %v: %d %v %d %d, not %s %d", op, old, there, n, holds, told, e, sum, want)
	}
}

// P6.5
func TestKeys(t *testing.T) {
	for _, c := range []struct {
		l    []api.Op
		want []string
	}{
		{nil, nil},
		{list(get("x")), []string{"x"}},
		{list(get("x"), add("x", 1), del("x")), []string{"x"}},
		{list(get("z"), put("b", 1), get("a"), del("z"), put("aa", 1), get("~t"), get("_")), []string{"_", "a", "aa", "b", "z", "~t"}},
		{list(get("\xff"), get(""), api.Op{Kind: 9, Key: "Z"}, get("")), []string{"", "Z", "\xff"}},
	} {
		kept := slices.Clone(c.l)
		got := ops.Keys(c.l...)
		if !slices.Equal(got, c.want) || !slices.Equal(c.l, kept) {
			t.Errorf("Keys of %+v: %q", kept, got)
		}
	}
}

// P6.5
func TestUndoes(t *testing.T) {
	for i, c := range []struct {
		do, undo []api.Op
		want     bool
	}{
		{nil, nil, true},
		{nil, list(get("x")), true},
		{list(get("x")), nil, true},
		{nil, list(back("x", 0)), true},
		{nil, list(back("x", 1)), false},
		{nil, list(back("x", 1), back("x", -1)), true},
		{list(add("x", 5)), list(back("x", -5)), true},
		{list(add("x", 5)), list(back("x", -4)), false},
		{list(add("x", 5)), list(back("x", 5)), false},
		{list(add("x", 5)), list(back("y", -5)), false},
		{list(add("x", 5)), nil, false},
		{list(add("x", 0)), nil, true},
		{list(add("x", 5), least("x", -2, 7), back("x", 4)), list(back("x", -7)), true},
		{list(add("x", 5), add("y", 1)), list(back("y", -1), get("z"), back("x", -5)), true},
		{list(add("x", 5), add("y", 1)), list(back("y", -1)), false},
		{list(add("x", 1), add("y", -1)), nil, false},
		{list(add("x", lo)), list(back("x", lo)), true},
		{list(add("x", lo), add("x", lo)), nil, true},
		{list(add("x", hi), add("x", 1)), list(back("x", lo)), true},
		{list(least("x", 3, 9)), list(back("x", -3)), true},
		{list(put("x", 0)), nil, false},
		{list(put("x", 5)), list(back("x", -5)), false},
		{list(del("x")), nil, false},
		{list(add("x", 5), del("y")), list(back("x", -5)), false},
		{list(add("x", 5)), list(add("x", -5)), false},
		{list(add("x", 5)), list(least("x", -5, lo)), false},
		{nil, list(put("x", 0)), false},
		{nil, list(del("x")), false},
		{nil, list(add("x", 0)), false},
		{list(api.Op{}), nil, false},
		{nil, list(api.Op{}), false},
		{list(api.Op{Kind: 7, Key: "x"}), nil, false},
		{nil, list(api.Op{Kind: -1, Key: "x"}), false},
		{list(add("~x", 5)), list(back("~x", -5)), true},
		{list(add("", 5)), list(back("", -5)), true},
		{list(add("x", 5), api.Op{Kind: api.Get, Key: "x", N: 3}), list(back("x", -5)), true},
	} {
		do, undo := slices.Clone(c.do), slices.Clone(c.undo)
		if ops.Undoes(do, undo) != c.want || !slices.Equal(do, c.do) || !slices.Equal(undo, c.undo) {
			t.Errorf("%d: %+v by %+v: %v", i, c.do, c.undo, !c.want)
		}
	}
}

// P6.5
func TestInverse(t *testing.T) {
	for _, c := range []struct{ do, want []api.Op }{
		{nil, nil},
		{list(get("x"), get("y")), nil},
		{list(add("x", 5), least("y", -3, 0)), list(back("y", 3), back("x", -5))},
		{list(back("~x", 5), get("x"), add("x", 0), least("x", lo, lo), add("x", hi)), list(back("x", -hi), back("x", lo), back("x", 0), back("~x", -5))},
	} {
		kept := slices.Clone(c.do)
		if got, ok := ops.Inverse(c.do...); !ok || !slices.Equal(got, c.want) || !slices.Equal(c.do, kept) {
			t.Errorf("Inverse of %+v: %+v %v", kept, got, ok)
		}
	}
	none := append(wrong("x"), put("x", 0), put("x", 5), del("x"), add("", 5), add("X", 5), get("~"), least("abcdefghijklmnopq", 1, 1))
	for _, op := range none {
		for _, do := range [][]api.Op{list(op), list(op, add("x", 1)), list(add("x", 1), op)} {
			if got, ok := ops.Inverse(do...); ok || len(got) != 0 {
				t.Errorf("Inverse of %+v: %+v", do, got)
			}
		}
	}
}

// P6.8: on any rows.
func TestInverseTakesBack(t *testing.T) {
	r := rand.New(rand.NewSource(8))
	keys := []string{"x", "y", "z"}
	for range 20000 {
		rows, then := map[string]int64{}, map[string]int64{}
		for _, k := range keys {
			if r.Intn(2) == 0 {
				rows[k] = int64(r.Uint64())
				then[k] = rows[k]
			}
		}
		var do []api.Op
		for range r.Intn(api.MaxOps + 1) {
			n := int64(r.Uint64()) >> r.Intn(64)
			op := []api.Op{get("k"), add("k", n), least("k", n, int64(r.Uint64())), back("k", n)}[r.Intn(4)]
			op.Key = keys[r.Intn(3)]
			if n, there, _, e := eval(op, then); e == api.OK && there {
				do, then[op.Key] = append(do, op), n
			}
		}
		undo, ok := ops.Inverse(do...)
		if !ok || !ops.Undoes(do, undo) || !ops.Total(undo...) {
			t.Fatalf("Inverse of %+v: %+v %v", do, undo, ok)
		}
		for _, op := range undo {
			n, _, _, e := eval(op, then)
			if e != api.OK {
				t.Fatal(op, e)
			}
			then[op.Key] = n
		}
		for _, k := range keys {
			if then[k] != rows[k] {
				t.Fatalf("%+v, and back %+v: %v, not %v", do, undo, then, rows)
			}
		}
	}
}

// eval is Eval on rows.
func eval(op api.Op, rows map[string]int64) (int64, bool, int64, api.Errno) {
	n, there := rows[op.Key]
	return ops.Eval(op, n, there)
}
