package journal_test

import (
	"bytes"
	"fmt"
	"math"
	"slices"
	"strings"
	"testing"

	"byroad/api"
	"byroad/crc"
	"byroad/journal"
	"byroad/tape"
)

const (
	lastSeg = 1 << 20 // the greatest number of a segment
	longest = api.MaxBody - 1
)

// disk is a tape of that room.
func disk(t *testing.T, room int) *tape.Tape {
	t.Helper()
	d, e := tape.New(room)
	if e != api.OK {
		t.Fatal("New", room, e)
	}
	return d
}

// open is the journal on a tape.
func open(t *testing.T, d *tape.Tape, seg int) *journal.Journal {
	t.Helper()
	j, e := journal.Open(d, seg)
	if e != api.OK || j == nil {
		t.Fatal("Open", e, tells(d))
	}
	return j
}

// must: each of these calls is done.
func must(t *testing.T, l ...api.Errno) {
	t.Helper()
	for i, e := range l {
		if e != api.OK {
			t.Fatal("call", i, "answers", e)
		}
	}
}

// raw is each text's bytes.
func raw(l ...string) [][]byte {
	var b [][]byte
	for _, s := range l {
		b = append(b, []byte(s))
	}
	return b
}

// rec, check: a frame of a record, and of a checkpoint.
func rec(s string) string   { return string(crc.Wrap([]byte{0}, []byte(s))) }
func check(s string) string { return string(crc.Wrap([]byte{1}, []byte(s))) }

// log is what a journal's log has.
func log(j *journal.Journal) string {
	return fmt.Sprintf("%q %q", j.State(), j.Recs())
}

// has: the log has that state and these records.
func has(t *testing.T, name string, j *journal.Journal, state string, recs ...string) {
	t.Helper()
	if got, want := log(j), fmt.Sprintf("%q %q", state, recs); got != want || j.Len() != len(recs) {
		t.Errorf("%s: %s (%d)\nnot %s", name, got, j.Len(), want)
	}
}

// tells is what stands in a tape's segments, and how much of each is synced.
func tells(d *tape.Tape) string {
	var l []string
	for _, seg := range d.Segs() {
		b, _ := d.Read(seg)
		l = append(l, fmt.Sprintf("%d: %q %d", seg, b, d.Synced(seg)))
	}
	return strings.Join(l, "; ")
}

// stands: that is what stands in the tape's segments; each text is one, ahead of its synced bytes' number.
func stands(t *testing.T, name string, d *tape.Tape, want ...string) {
	t.Helper()
	if got := tells(d); got != strings.Join(want, "; ") {
		t.Errorf("%s: %s\nnot %s", name, got, strings.Join(want, "; "))
	}
}

// seg is what tells says of one segment.
func seg(n int, synced int, bytes ...string) string {
	return fmt.Sprintf("%d: %q %d", n, strings.Join(bytes, ""), synced)
}

// held is a tape that holds these segments, all synced.
func held(t *testing.T, segs map[int]string) *tape.Tape {
	t.Helper()
	d := disk(t, api.MaxDisk)
	for n, s := range segs {
		must(t, d.Append(n, []byte(s)), d.Sync(n))
	}
	return d
}

// Example 1
func TestExample(t *testing.T) {
	d := disk(t, 1000)
	j := open(t, d, 64)
	has(t, "empty", j, "")
	must(t, j.Write([]byte("a")), j.Append([]byte("b")))
	has(t, "two", j, "", "a", "b")
	has(t, "crashed", open(t, d.Crash(), 64), "", "a")
	must(t, j.Save([]byte("s")))
	has(t, "saved", j, "s")
	if !slices.Equal(j.Segs(), []int{1}) {
		t.Error("Segs", j.Segs())
	}
	must(t, j.Append([]byte("c")))
	has(t, "behind it", j, "s", "c")
}

// P5.1
func TestOpenRefused(t *testing.T) {
	for _, n := range []int{0, 15, 16, 64, -1, api.MaxDisk + 1} {
		if j, e := journal.Open(nil, n); j != nil || e != api.ErrNil {
			t.Error("a nil tape", n, j, e)
		}
	}
	for _, n := range []int{math.MinInt, -1, 0, 1, 15, api.MaxDisk + 1, math.MaxInt} {
		d := held(t, map[int]string{3: rec("a") + "torn", 4: "torn"})
		before := tells(d)
		if j, e := journal.Open(d, n); j != nil || e != api.ErrArg {
			t.Error("segments of", n, j, e)
		}
		stands(t, "refused", d, before)
	}
	for _, n := range []int{16, 17, 64, api.MaxDisk} {
		has(t, fmt.Sprint("segments of ", n), open(t, disk(t, 0), n), "")
	}
}

// P5.1: which log is on a tape, and what is taken away there.
func TestOpen(t *testing.T) {
	long := rec(strings.Repeat("l", longest))
	for _, c := range []struct {
		name  string
		segs  map[int]string
		state string
		recs  []string
		left  map[int]string
	}{
		{"nothing", nil, "", nil, nil},
		{"a record", map[int]string{0: rec("a")}, "", []string{"a"}, map[int]string{0: rec("a")}},
		{"records", map[int]string{0: rec("a") + rec("") + rec("b")}, "", []string{"a", "", "b"}, map[int]string{0: rec("a") + rec("") + rec("b")}},
		{"segments", map[int]string{7: rec("a"), lastSeg: rec("c"), 9: rec("b")}, "", []string{"a", "b", "c"}, map[int]string{7: rec("a"), 9: rec("b"), lastSeg: rec("c")}},
		{"longer than segments", map[int]string{2: long + long}, "", []string{strings.Repeat("l", longest), strings.Repeat("l", longest)}, map[int]string{2: long + long}},
		{"a checkpoint", map[int]string{4: check("s")}, "s", nil, map[int]string{4: check("s")}},
		{"a checkpoint of nothing", map[int]string{1: rec("a"), 4: check("")}, "", nil, map[int]string{4: check("")}},
		{"a checkpoint and records", map[int]string{1: rec("a"), 4: check("s") + rec("b"), 5: rec("c")}, "s", []string{"b", "c"}, map[int]string{4: check("s") + rec("b"), 5: rec("c")}},
		{"two checkpoints", map[int]string{1: check("r") + rec("a"), 4: check("s") + rec("b"), 6: rec("c")}, "s", []string{"b", "c"}, map[int]string{4: check("s") + rec("b"), 6: rec("c")}},
		{"a checkpoint in the first one", map[int]string{1: check("r") + rec("a"), 4: rec("b")}, "r", []string{"a", "b"}, map[int]string{1: check("r") + rec("a"), 4: rec("b")}},
		{"a checkpoint not at the beginning", map[int]string{1: rec("a"), 4: rec("b") + check("s") + rec("c")}, "", []string{"a", "b", "c"}, map[int]string{1: rec("a"), 4: rec("b") + check("s") + rec("c")}},
		{"a checkpoint behind another one", map[int]string{1: rec("a"), 4: check("s") + check("t") + rec("c")}, "s", []string{"c"}, map[int]string{4: check("s") + check("t") + rec("c")}},
		{"other kinds", map[int]string{1: kind(2, "x") + rec("a") + kind(255, "y"), 2: kind(9, "") + rec("b")}, "", []string{"a", "b"}, map[int]string{1: kind(2, "x") + rec("a") + kind(255, "y"), 2: kind(9, "") + rec("b")}},
		{"no kind", map[int]string{1: none() + rec("a"), 2: none()}, "", []string{"a"}, map[int]string{1: none() + rec("a"), 2: none()}},
		{"another kind ahead of a checkpoint", map[int]string{1: rec("a"), 2: kind(2, "") + check("s")}, "", []string{"a"}, map[int]string{1: rec("a"), 2: kind(2, "") + check("s")}},
		{"no kind ahead of a checkpoint", map[int]string{1: rec("a"), 2: none() + check("s")}, "", []string{"a"}, map[int]string{1: rec("a"), 2: none() + check("s")}},
		{"a tail", map[int]string{0: rec("a") + rec("b")[:7]}, "", []string{"a"}, map[int]string{0: rec("a")}},
		{"a tail of one byte", map[int]string{0: rec("a") + "\xA7"}, "", []string{"a"}, map[int]string{0: rec("a")}},
		{"a tail with a frame", map[int]string{0: rec("a") + "x" + rec("b")}, "", []string{"a"}, map[int]string{0: rec("a")}},
		{"nothing but tails", map[int]string{0: "x", 3: rec("b")[:8], 4: "", 5: check("s")[1:]}, "", nil, nil},
		{"tails at the end", map[int]string{2: rec("a") + "x", 4: "x", 6: "", 8: check("s")[:8]}, "", []string{"a"}, map[int]string{2: rec("a")}},
		{"tails between", map[int]string{1: "x", 2: rec("a") + "x", 3: "", 4: rec("b")}, "", []string{"a", "b"}, map[int]string{1: "x", 2: rec("a") + "x", 3: "", 4: rec("b")}},
		{"tails ahead of a checkpoint", map[int]string{1: "x", 2: rec("a") + "x", 3: "", 4: check("s") + "x", 9: "x"}, "s", nil, map[int]string{4: check("s")}},
		{"tails behind a checkpoint", map[int]string{1: "x", 2: check("s") + "x", 3: "x", 4: rec("b")}, "s", []string{"b"}, map[int]string{2: check("s") + "x", 3: "x", 4: rec("b")}},
	} {
		for _, n := range []int{16, api.MaxDisk} {
			d, want := held(t, c.segs), held(t, c.left)
			j := open(t, d, n)
			has(t, c.name, j, c.state, c.recs...)
			stands(t, c.name, d, tells(want))
			has(t, c.name+", once more", open(t, d, n), c.state, c.recs...)
			stands(t, c.name+", once more", d, tells(want))
		}
	}
}

// kind is a frame of some kind, none one without any.
func kind(k byte, s string) string { return string(crc.Wrap([]byte{k}, []byte(s))) }
func none() string                 { return string(crc.Wrap()) }

// P5.1: change by change, in order; and the tape's error of one of them.
func TestOpenStepByStep(t *testing.T) {
	steps := [][]string{
		{seg(1, 1, "x"), seg(2, 8, rec("")), seg(3, 10, check("s"), "x"), seg(4, 1, "x"), seg(5, 0)},
		{seg(1, 1, "x"), seg(2, 8, rec("")), seg(3, 10, check("s"), "x"), seg(4, 1, "x")},
		{seg(1, 1, "x"), seg(2, 8, rec("")), seg(3, 10, check("s"), "x")},
		{seg(1, 1, "x"), seg(2, 8, rec("")), seg(3, 9, check("s"))},
		{seg(2, 8, rec("")), seg(3, 9, check("s"))},
		{seg(3, 9, check("s"))},
	}
	for n := range 8 {
		d := held(t, map[int]string{1: "x", 2: rec(""), 3: check("s") + "x", 4: "x", 5: ""})
		stands(t, "at first", d, steps[0]...)
		d.Fuse(n)
		j, e := journal.Open(d, 16)
		if whole := n >= len(steps)-1; (e == api.OK) != whole || (j != nil) != whole || !whole && e != api.ErrDown || d.Down() == whole {
			t.Error(n, "changes:", j, e, d.Down())
		}
		stands(t, fmt.Sprint(n, " changes"), d, steps[min(n, len(steps)-1)]...)
		if n >= len(steps) && d.Drop(77) != api.ErrNone {
			t.Error(n, "changes: the power fails")
		}
	}
}

// P5.1: where nothing is torn nothing is changed, so no power is needed.
func TestOpenChangesNothing(t *testing.T) {
	d := held(t, map[int]string{3: check("s") + rec("a"), 5: rec("b")})
	must(t, d.Append(5, []byte(rec("c"))))
	d.Fuse(0)
	if d.Sync(3) != api.ErrDown {
		t.Fatal("the power does not fail")
	}
	j := open(t, d, 16)
	has(t, "without power", j, "s", "a", "b", "c")
	if j.Append([]byte("x")) != api.ErrDown || j.Sync() != api.ErrDown || j.Save(nil) != api.ErrDown || j.Write([]byte("x")) != api.ErrDown {
		t.Error("changed without power")
	}
	has(t, "refused", j, "s", "a", "b", "c")
	stands(t, "refused", d, seg(3, 18, check("s"), rec("a")), seg(5, 9, rec("b"), rec("c")))
}

// P5.2: when the next segment's turn comes.
func TestAppendSegments(t *testing.T) {
	d := disk(t, api.MaxDisk)
	j := open(t, d, 24)
	must(t, j.Append(raw("abcd", "efgh")...)) // 24 bytes, and no more
	stands(t, "just full", d, seg(0, 0, rec("abcd"), rec("efgh")))
	must(t, j.Append([]byte(""))) // 8 bytes
	stands(t, "the next one", d, seg(0, 24, rec("abcd"), rec("efgh")), seg(1, 0, rec("")))
	must(t, j.Append([]byte("12345678"))) // 16 bytes, just full
	stands(t, "full again", d, seg(0, 24, rec("abcd"), rec("efgh")), seg(1, 0, rec(""), rec("12345678")))
	must(t, j.Append([]byte("123456789"), []byte("long"))) // 17 and 12 bytes: too many, but at once
	stands(t, "too long at once", d, seg(0, 24, rec("abcd"), rec("efgh")), seg(1, 24, rec(""), rec("12345678")), seg(2, 0, rec("123456789"), rec("long")))
	must(t, j.Append([]byte("")))
	stands(t, "behind it", d, seg(0, 24, rec("abcd"), rec("efgh")), seg(1, 24, rec(""), rec("12345678")), seg(2, 29, rec("123456789"), rec("long")), seg(3, 0, rec("")))
	has(t, "all", j, "", "abcd", "efgh", "", "12345678", "123456789", "long", "")
	if j.Size() != 85 || j.Size() != d.Used() || !slices.Equal(j.Segs(), []int{0, 1, 2, 3}) {
		t.Error("Size", j.Size(), j.Segs())
	}
	must(t, j.Sync())
	has(t, "opened", open(t, d.Crash(), 24), "", "abcd", "efgh", "", "12345678", "123456789", "long", "")
}

// P5.2: one byte too many, and the longest records at once in an empty log.
func TestAppendAtTheEdge(t *testing.T) {
	d := disk(t, api.MaxDisk)
	j := open(t, d, 16)
	must(t, j.Append([]byte("")), j.Append([]byte("a"))) // 8 and 9 bytes
	stands(t, "one byte too many", d, seg(0, 8, rec("")), seg(1, 0, rec("a")))

	d = disk(t, api.MaxDisk)
	j = open(t, d, 16)
	long := strings.Repeat("l", longest)
	must(t, j.Append(raw(long, long)...))
	stands(t, "long ones", d, seg(0, 0, rec(long), rec(long)))
	has(t, "long ones", j, "", long, long)

	d = disk(t, api.MaxDisk)
	j = open(t, d, 16)
	must(t, d.Append(5), j.Append([]byte("123456789"))) // 17 bytes
	stands(t, "an empty one", d, seg(5, 0, rec("123456789")))

	d = held(t, map[int]string{7: rec("a")})
	j = open(t, d, 32)
	must(t, j.Append([]byte("b")), j.Append([]byte("behind the last one")))
	stands(t, "the last one there is", d, seg(7, 18, rec("a"), rec("b")), seg(8, 0, rec("behind the last one")))
}

// P5.2
func TestAppendRefused(t *testing.T) {
	d := disk(t, 60000)
	j := open(t, d, 64)
	must(t, j.Append(), j.Append(nil...), j.Sync(), j.Write())
	stands(t, "nothing", d)
	must(t, j.Write([]byte("a")), j.Append([]byte("b")), j.Append())
	before := tells(d)
	long := make([]byte, longest+1)
	for name, e := range map[string]api.Errno{
		"Append": j.Append(long), "behind others": j.Append([]byte("c"), long), "ahead of others": j.Append(long, []byte("c")), "longer": j.Append(make([]byte, 50000)),
		"Write": j.Write([]byte("c"), long), "far longer": j.Append(make([]byte, 1<<20)), "Save": j.Save(long), "Save of longer": j.Save(make([]byte, 50000)),
	} {
		if e != api.ErrLong {
			t.Error(name, "of a long one", e)
		}
	}
	stands(t, "long ones", d, before)
	has(t, "long ones", j, "", "a", "b")
	d.Fuse(0)
	if j.Append(long) != api.ErrLong || j.Append() != api.OK || j.Save(long) != api.ErrLong || d.Down() {
		t.Error("refused, but the tape was asked")
	}
}

// P5.2: the tape's errors.
func TestAppendTapeErrors(t *testing.T) {
	d := disk(t, 30)
	j := open(t, d, 24)
	must(t, j.Append([]byte("a"))) // 9 bytes
	if e := j.Append([]byte("0123456789abcde")); e != api.ErrFull {
		t.Error("no room", e)
	}
	stands(t, "synced, and nothing more", d, seg(0, 9, rec("a")))
	has(t, "no room", j, "", "a")
	must(t, j.Append([]byte("b"))) // 18
	if e := j.Append([]byte("c"), []byte("")); e != api.ErrFull {
		t.Error("no room for both", e)
	}
	if e := j.Write([]byte("123456")); e != api.ErrFull {
		t.Error("no room to write", e)
	}
	has(t, "no room", j, "", "a", "b")
	must(t, j.Append([]byte("1234"))) // 30, in the next one
	stands(t, "filled", d, seg(0, 18, rec("a"), rec("b")), seg(1, 0, rec("1234")))
	has(t, "filled", j, "", "a", "b", "1234")

	d = held(t, map[int]string{lastSeg: rec("a")})
	j = open(t, d, 16)
	if e := j.Append([]byte("b")); e != api.ErrArg {
		t.Error("behind the last segment", e)
	}
	if e := j.Save([]byte("s")); e != api.ErrArg {
		t.Error("Save behind the last segment", e)
	}
	has(t, "behind the last segment", j, "", "a")

	d = disk(t, api.MaxDisk)
	j = open(t, d, 16)
	for i := range api.MaxSegs {
		must(t, j.Append([]byte{byte(i)}))
	}
	if e := j.Append([]byte("x")); e != api.ErrFull || j.Len() != api.MaxSegs {
		t.Error("one segment too many", e, j.Len())
	}
	if e := j.Save([]byte("x")); e != api.ErrFull || j.Len() != api.MaxSegs || len(j.State()) != 0 {
		t.Error("Save into one segment too many", e, j.Len())
	}
}

// P5.2: how many changes of the tape each call is, and what is there when it has none left.
func TestChanges(t *testing.T) {
	for _, c := range []struct {
		name string
		call func(j *journal.Journal) api.Errno
		want []string // the log when so many changes were left
	}{
		{"Append", func(j *journal.Journal) api.Errno { return j.Append(raw("c", "d")...) }, []string{`"" ["a" "b"]`, `"" ["a" "b" "c" "d"]`}},
		{"Append of none", func(j *journal.Journal) api.Errno { return j.Append() }, []string{`"" ["a" "b"]`}},
		{"Append to the next one", func(j *journal.Journal) api.Errno { return j.Append(make([]byte, 60)) }, []string{`"" ["a" "b"]`, `"" ["a" "b"]`, fmt.Sprintf(`"" ["a" "b" %q]`, make([]byte, 60))}},
		{"Sync", (*journal.Journal).Sync, []string{`"" ["a" "b"]`, `"" ["a" "b"]`}},
		{"Write", func(j *journal.Journal) api.Errno { return j.Write(raw("c", "d")...) }, []string{`"" ["a" "b"]`, `"" ["a" "b" "c" "d"]`, `"" ["a" "b" "c" "d"]`}},
		{"Write of none", func(j *journal.Journal) api.Errno { return j.Write() }, []string{`"" ["a" "b"]`, `"" ["a" "b"]`}},
		{"Save", func(j *journal.Journal) api.Errno { return j.Save([]byte("s")) }, []string{`"" ["a" "b"]`, `"" ["a" "b"]`, `"" ["a" "b"]`, `"s" []`, `"s" []`, `"s" []`}},
	} {
		for n := range len(c.want) + 1 {
			d := held(t, map[int]string{3: rec("a"), 4: rec("b")})
			j := open(t, d, 64)
			d.Fuse(n)
			e := c.call(j)
			if whole := n >= len(c.want)-1; whole && (e != api.OK || d.Down()) || !whole && (e != api.ErrDown || !d.Down()) {
				t.Error(c.name, n, "changes:", e, d.Down())
			}
			if got := log(j); got != c.want[min(n, len(c.want)-1)] {
				t.Error(c.name, n, "changes:", got)
			}
			if n == len(c.want)-1 && (d.Sync(d.Segs()[0]) != api.ErrDown || !d.Down()) {
				t.Error(c.name, "takes fewer changes than", n)
			}
		}
	}
}

// P5.2
func TestSync(t *testing.T) {
	d := disk(t, 1000)
	j := open(t, d, 32)
	d.Fuse(0)
	must(t, j.Sync())
	if d.Down() {
		t.Error("Sync of nothing asks the tape")
	}
	d.Fuse(-1)
	must(t, j.Append([]byte("a")), j.Append([]byte("b")))
	stands(t, "not synced", d, seg(0, 0, rec("a"), rec("b")))
	must(t, j.Sync())
	stands(t, "synced", d, seg(0, 18, rec("a"), rec("b")))
	must(t, j.Append([]byte("c")), j.Write([]byte("d"), []byte("e")))
	stands(t, "written", d, seg(0, 27, rec("a"), rec("b"), rec("c")), seg(1, 18, rec("d"), rec("e")))
	must(t, j.Append([]byte("f")), j.Write())
	stands(t, "nothing written", d, seg(0, 27, rec("a"), rec("b"), rec("c")), seg(1, 27, rec("d"), rec("e"), rec("f")))

	d = disk(t, 1000)
	j = open(t, d, 32)
	must(t, d.Append(0), d.Drop(0))
	d.Fuse(0)
	if d.Append(0) != api.ErrDown || j.Sync() != api.OK || j.Write() != api.OK {
		t.Error("without a segment, and without power")
	}
}

// P5.3
func TestSave(t *testing.T) {
	d := disk(t, 1000)
	j := open(t, d, 20)
	must(t, j.Save([]byte("first")))
	stands(t, "of nothing", d, seg(0, 13, check("first")))
	has(t, "of nothing", j, "first")
	must(t, j.Append([]byte("a")), j.Append([]byte("b")), j.Append([]byte("c")))
	has(t, "records", j, "first", "a", "b", "c")
	stands(t, "records", d, seg(0, 13, check("first")), seg(1, 18, rec("a"), rec("b")), seg(2, 0, rec("c")))
	must(t, j.Save([]byte("second")))
	stands(t, "of records", d, seg(3, 14, check("second")))
	has(t, "of records", j, "second")
	must(t, j.Save(nil))
	stands(t, "no state", d, seg(4, 8, check("")))
	has(t, "no state", j, "")
	must(t, j.Append([]byte("d")), j.Sync(), j.Save([]byte("third")), j.Append([]byte("e")))
	has(t, "opened", open(t, d.Crash(), 20), "third")
	has(t, "opened, with a tail", open(t, d.Crash(0, 99), 20), "third", "e")

	d = disk(t, api.MaxDisk)
	j = open(t, d, 20)
	long := strings.Repeat("s", longest)
	must(t, j.Save([]byte(long)))
	has(t, "the longest", j, long)
	has(t, "the longest, opened", open(t, d.Crash(), 20), long)
	must(t, d.Drop(0), j.Save([]byte("s")))
	stands(t, "of a tape without segments", d, seg(0, 9, check("s")))
}

// P5.3: a Save for which there is no room changes nothing, but that the log is synced.
func TestSaveRefused(t *testing.T) {
	d := disk(t, 30)
	j := open(t, d, 64)
	must(t, j.Append([]byte("a")), j.Append([]byte("b"))) // 18 bytes
	if e := j.Save([]byte("12345")); e != api.ErrFull {   // 13 bytes
		t.Error("no room", e)
	}
	has(t, "no room", j, "", "a", "b")
	stands(t, "no room", d, seg(0, 18, rec("a"), rec("b")))
	must(t, j.Save([]byte("1234")))
	stands(t, "room", d, seg(1, 12, check("1234")))
	if e := j.Save([]byte("12345678901")); e != api.ErrFull {
		t.Error("no room again", e)
	}
	has(t, "no room again", j, "1234")
	must(t, j.Append([]byte("c")))
	has(t, "goes on", j, "1234", "c")
}

// P5.3: change by change, also what stands on the tape.
func TestSaveStepByStep(t *testing.T) {
	for n, c := range []struct {
		tape []string
		log  string
	}{
		{[]string{seg(3, 9, rec("a")), seg(4, 9, rec("b")), seg(5, 0, rec("c"))}, `"" ["a" "b" "c"]`},
		{[]string{seg(3, 9, rec("a")), seg(4, 9, rec("b")), seg(5, 9, rec("c"))}, `"" ["a" "b" "c"]`},
		{[]string{seg(3, 9, rec("a")), seg(4, 9, rec("b")), seg(5, 9, rec("c")), seg(6, 0, check("s"))}, `"" ["a" "b" "c"]`},
		{[]string{seg(3, 9, rec("a")), seg(4, 9, rec("b")), seg(5, 9, rec("c")), seg(6, 9, check("s"))}, `"s" []`},
		{[]string{seg(4, 9, rec("b")), seg(5, 9, rec("c")), seg(6, 9, check("s"))}, `"s" []`},
		{[]string{seg(5, 9, rec("c")), seg(6, 9, check("s"))}, `"s" []`},
		{[]string{seg(6, 9, check("s"))}, `"s" []`},
	} {
		d := held(t, map[int]string{3: rec("a"), 4: rec("b")})
		j := open(t, d, 16)
		must(t, j.Append([]byte("c")))
		d.Fuse(n)
		e := j.Save([]byte("s"))
		if n < 6 && e != api.ErrDown || n == 6 && e != api.OK {
			t.Error(n, "changes:", e)
		}
		if log(j) != c.log {
			t.Error(n, "changes:", log(j))
		}
		stands(t, fmt.Sprint(n, " changes"), d, c.tape...)
	}
}

// P5.4
func TestTells(t *testing.T) {
	d := disk(t, 1000)
	j := open(t, d, 16)
	if len(j.State()) != 0 || len(j.Recs()) != 0 || j.Len() != 0 || len(j.Segs()) != 0 || j.Size() != 0 {
		t.Error("an empty one", log(j), j.Segs(), j.Size())
	}
	must(t, j.Append(nil), j.Append([]byte{}, []byte("\x00\xff")))
	has(t, "no bytes", j, "", "", "", "\x00\xff")
	must(t, d.Append(9, []byte("xy")))
	if !slices.Equal(j.Segs(), []int{0, 1, 9}) || j.Size() != 28 {
		t.Error("the tape's", j.Segs(), j.Size())
	}
}

// P5.7 and the rules: what is told, and what is handed in, is shared with nothing.
func TestShareNothing(t *testing.T) {
	d := disk(t, 1000)
	j := open(t, d, 32)
	state, rec := []byte("state"), append(make([]byte, 0, 9), "rec"...)
	recs := [][]byte{rec, rec, nil}
	must(t, j.Save(state), j.Write(recs...))
	if string(rec[:9]) != "rec\x00\x00\x00\x00\x00\x00" || len(recs) != 3 || string(recs[1]) != "rec" || recs[2] != nil || string(state) != "state" {
		t.Errorf("written into what was handed in: %q %q %q", rec[:9], recs, state)
	}
	clear(state)
	clear(rec)
	recs[0], recs[1] = []byte("other"), nil
	opened := open(t, d.Crash(), 32)
	for name, j := range map[string]*journal.Journal{"this one": j, "opened": opened} {
		has(t, name, j, "state", "rec", "rec", "")
		s, l, segs := j.State(), j.Recs(), j.Segs()
		clear(s)
		_ = append(s, "written behind it"...)
		for i := range l {
			clear(l[i])
			l[i] = append(l[i], "written behind it"...)
			l[i] = nil
		}
		_ = append(l, []byte("one more"))
		clear(segs)
		has(t, name+", written into", j, "state", "rec", "rec", "")
		if !slices.Equal(j.Segs(), []int{0, 1}) {
			t.Error(name, j.Segs())
		}
		l = j.Recs()
		l[0][0] = 'X'
		if string(l[1]) != "rec" || string(j.Recs()[0]) != "rec" {
			t.Error(name, "records share something")
		}
	}
	if b, _ := d.Read(1); !bytes.Contains(b, []byte("rec")) {
		t.Errorf("the tape: %q", b)
	}
}

// Of a nil journal, and of one that nobody opened.
func TestNil(t *testing.T) {
	var j *journal.Journal
	long := make([]byte, longest+1)
	for name, e := range map[string]api.Errno{
		"Append": j.Append([]byte("a")), "Append of none": j.Append(), "Append of a long one": j.Append(long), "Sync": j.Sync(),
		"Save": j.Save(nil), "Save of a long one": j.Save(long), "Write": j.Write([]byte("a")), "Write of none": j.Write(),
	} {
		if e != api.ErrNil {
			t.Error(name, e)
		}
	}
	for name, j := range map[string]*journal.Journal{"nil": nil, "zero": {}} {
		if len(j.State()) != 0 || len(j.Recs()) != 0 || j.Len() != 0 || len(j.Segs()) != 0 || j.Size() != 0 {
			t.Error(name, "tells something")
		}
	}
	j = &journal.Journal{}
	if j.Append([]byte("a")) != api.ErrNil || j.Save(nil) != api.ErrNil || j.Append() != api.OK || j.Len() != 0 {
		t.Error("a zero journal")
	}
}
