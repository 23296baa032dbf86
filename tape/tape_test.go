package tape_test

import (
	"bytes"
	"fmt"
	"math"
	"slices"
	"testing"

	"byroad/api"
	"byroad/tape"
)

const top = 1 << 20 // the greatest number of a segment

// made is a tape of that room.
func made(t *testing.T, room int) *tape.Tape {
	t.Helper()
	d, e := tape.New(room)
	if e != api.OK || d == nil {
		t.Fatal("New", room, e)
	}
	return d
}

// must: each of these changes is done.
func must(t *testing.T, l ...api.Errno) {
	t.Helper()
	for i, e := range l {
		if e != api.OK {
			t.Fatal("change", i, "answers", e)
		}
	}
}

// example is the tape of the document's example.
func example(t *testing.T) *tape.Tape {
	t.Helper()
	d := made(t, 20)
	must(t, d.Append(3, []byte("ab")), d.Sync(3), d.Append(3, []byte("cd")), d.Append(5, []byte("x")))
	return d
}

// tells is all that a tape tells.
func tells(d *tape.Tape) string {
	s := fmt.Sprint("used ", d.Used(), " free ", d.Free(), " down ", d.Down())
	for _, seg := range d.Segs() {
		b, e := d.Read(seg)
		s += fmt.Sprintf("; %d: %q %d %d %d", seg, b, e, d.Len(seg), d.Synced(seg))
	}
	return s
}

// stands: it tells just that.
func stands(t *testing.T, name string, d *tape.Tape, want string) {
	t.Helper()
	if got := tells(d); got != want {
		t.Errorf("%s: %s\nnot %s", name, got, want)
	}
}

// P4.1
func TestNew(t *testing.T) {
	for _, room := range []int{0, 1, 20, api.MaxDisk - 1, api.MaxDisk} {
		d := made(t, room)
		stands(t, "a new one", d, fmt.Sprint("used 0 free ", room, " down false"))
		if len(d.Segs()) != 0 {
			t.Error("a new one has segments", d.Segs())
		}
	}
	for _, room := range []int{-1, math.MinInt, api.MaxDisk + 1, math.MaxInt} {
		if d, e := tape.New(room); d != nil || e != api.ErrArg {
			t.Error("New", room, d, e)
		}
	}
}

// The example
func TestExample(t *testing.T) {
	d := example(t)
	if !slices.Equal(d.Segs(), []int{3, 5}) || d.Synced(3) != 2 || d.Used() != 5 {
		t.Error(d.Segs(), d.Synced(3), d.Used())
	}
	stands(t, "behind the crash", d.Crash(1), `used 3 free 17 down false; 3: "abc" 0 3 3`)
}

// Of a nil tape
func TestNil(t *testing.T) {
	var d *tape.Tape
	d.Fuse(0)
	d.Fuse(-1)
	b, e := d.Read(1)
	for name, e := range map[string]api.Errno{
		"Append": d.Append(1, []byte("a")), "Append of a wrong one": d.Append(-1), "Sync": d.Sync(1), "Sync of a wrong one": d.Sync(-1),
		"Trim": d.Trim(1, 0), "Trim of a wrong one": d.Trim(1, -1), "Drop": d.Drop(1), "Drop of a wrong one": d.Drop(top + 1), "Read": e,
		"Room": d.Room(1), "Room of a wrong one": d.Room(-1),
	} {
		if e != api.ErrNil {
			t.Error(name, e)
		}
	}
	if len(b) != 0 || d.Len(1) != 0 || d.Synced(1) != 0 || len(d.Segs()) != 0 || d.Used() != 0 || d.Free() != 0 || d.Down() || d.Crash() != nil || d.Crash(1, 2) != nil {
		t.Error("a nil tape tells something")
	}
}

// P1: a tape that nobody made by New is one without room.
func TestZero(t *testing.T) {
	d := &tape.Tape{}
	stands(t, "the zero tape", d, "used 0 free 0 down false")
	stands(t, "crashed", d.Crash(3), "used 0 free 0 down false")
	if d.Append(1, []byte("a")) != api.ErrFull || d.Sync(1) != api.ErrNone {
		t.Error("the zero tape has room, or a segment")
	}
	must(t, d.Append(1), d.Room(1), d.Append(1, []byte("a")), d.Sync(1))
	stands(t, "filled", d, `used 1 free 0 down false; 1: "a" 0 1 1`)
}

// A change of a segment.
type change struct {
	name string
	do   func(d *tape.Tape, seg int) api.Errno
	own  func(d *tape.Tape, seg int) api.Errno // the same, with its own error; nil, if it has none
}

func changes() []change {
	return []change{
		{"Append", func(d *tape.Tape, seg int) api.Errno { return d.Append(seg, []byte("e")) }, func(d *tape.Tape, seg int) api.Errno { return d.Append(seg, make([]byte, 21)) }},
		{"Sync", func(d *tape.Tape, seg int) api.Errno { return d.Sync(seg) }, nil},
		{"Trim", func(d *tape.Tape, seg int) api.Errno { return d.Trim(seg, 1) }, func(d *tape.Tape, seg int) api.Errno { return d.Trim(seg, -1) }},
		{"Drop", func(d *tape.Tape, seg int) api.Errno { return d.Drop(seg) }, nil},
	}
}

// P4.2: the order of the errors of all changes.
func TestErrorsInOrder(t *testing.T) {
	for _, c := range changes() {
		d := example(t)
		d.Fuse(0)
		for _, seg := range []int{-1, math.MinInt, top + 1, math.MaxInt} {
			if e := c.do(d, seg); e != api.ErrArg {
				t.Error(c.name, seg, e)
			}
		}
		if e := c.do(d, 4); c.name != "Append" && e != api.ErrNone {
			t.Error(c.name, "of none, without a change left", e)
		}
		if d.Down() && c.name != "Append" {
			t.Error(c.name, "refused, fails the power")
		}
		if c.own != nil {
			d = example(t)
			d.Fuse(0)
			if e := c.own(d, 3); e != map[string]api.Errno{"Append": api.ErrFull, "Trim": api.ErrArg}[c.name] || d.Down() {
				t.Error(c.name, "its own error, without a change left", e, d.Down())
			}
		}
		if e := c.do(d, 3); e != api.ErrDown || !d.Down() {
			t.Error(c.name, "without a change left", e, d.Down())
		}
		for name, e := range map[string]api.Errno{"of a wrong one": c.do(d, -1), "of a wrong one above": c.do(d, top+1)} {
			if e != api.ErrArg {
				t.Error(c.name, name, "without power", e)
			}
		}
		for name, e := range map[string]api.Errno{"of none": c.do(d, 4), "of one": c.do(d, 3)} {
			if e != api.ErrDown {
				t.Error(c.name, name, "without power", e)
			}
		}
		if c.own != nil && (c.own(d, 3) != api.ErrDown || c.own(d, 4) != api.ErrDown || c.own(d, -1) != api.ErrArg) {
			t.Error(c.name, "its own error, without power")
		}
		stands(t, c.name+" without power", d, `used 5 free 15 down true; 3: "abcd" 0 4 2; 5: "x" 0 1 0`)
	}
}

// P4.2: segments that may be and are not there, and the greatest one.
func TestNumbers(t *testing.T) {
	for _, seg := range []int{0, top} {
		d := made(t, 5)
		if d.Sync(seg) != api.ErrNone || d.Trim(seg, 0) != api.ErrNone || d.Trim(seg, -1) != api.ErrNone || d.Drop(seg) != api.ErrNone {
			t.Error("a segment that is not there", seg)
		}
		if b, e := d.Read(seg); len(b) != 0 || e != api.ErrNone {
			t.Error("Read of none", seg, e)
		}
		stands(t, "refused", d, "used 0 free 5 down false")
		must(t, d.Append(seg, []byte("ab")), d.Sync(seg), d.Trim(seg, 1))
		stands(t, "one", d, fmt.Sprintf(`used 1 free 4 down false; %d: "a" 0 1 1`, seg))
		must(t, d.Drop(seg))
		stands(t, "dropped", d, "used 0 free 5 down false")
		if d.Drop(seg) != api.ErrNone {
			t.Error("dropped twice", seg)
		}
	}
}

// P4.2: Append
func TestAppend(t *testing.T) {
	d := made(t, 6)
	must(t, d.Append(2, []byte("a"), nil, []byte("bc"), []byte{}), d.Append(2, []byte("d")), d.Append(1), d.Append(9, nil, nil))
	stands(t, "parts", d, `used 4 free 2 down false; 1: "" 0 0 0; 2: "abcd" 0 4 0; 9: "" 0 0 0`)
	before := tells(d)
	if d.Append(2, []byte("efg")) != api.ErrFull || d.Append(2, []byte("e"), []byte("f"), []byte("g")) != api.ErrFull || d.Append(3, []byte("efg")) != api.ErrFull {
		t.Error("more than are free")
	}
	stands(t, "refused", d, before)
	must(t, d.Append(2, []byte("e"), []byte("f")), d.Append(2), d.Append(1, nil))
	if d.Append(1, []byte("g")) != api.ErrFull {
		t.Error("nothing is free")
	}
	stands(t, "filled", d, `used 6 free 0 down false; 1: "" 0 0 0; 2: "abcdef" 0 6 0; 9: "" 0 0 0`)
}

// P4.2: Append, at most MaxSegs segments
func TestMostSegments(t *testing.T) {
	d := made(t, 100)
	for i := range api.MaxSegs {
		must(t, d.Append(3*i))
	}
	if d.Append(1) != api.ErrFull || d.Append(top, []byte("a")) != api.ErrFull || len(d.Segs()) != api.MaxSegs || d.Used() != 0 {
		t.Error("one segment too many", d.Segs())
	}
	must(t, d.Append(3, []byte("a")), d.Trim(6, 0))
	if d.Append(1) != api.ErrFull {
		t.Error("one too many, behind Trim")
	}
	must(t, d.Drop(6), d.Append(1))
	if d.Append(6) != api.ErrFull || !slices.IsSorted(d.Segs()) || len(d.Segs()) != api.MaxSegs {
		t.Error("one too many, behind Drop", d.Segs())
	}
}

// P4.2: Sync
func TestSync(t *testing.T) {
	d := made(t, 20)
	must(t, d.Append(1, []byte("ab")), d.Append(2, []byte("cd")), d.Append(3), d.Sync(1), d.Sync(3))
	stands(t, "synced", d, `used 4 free 16 down false; 1: "ab" 0 2 2; 2: "cd" 0 2 0; 3: "" 0 0 0`)
	must(t, d.Append(1, []byte("e")))
	stands(t, "a tail", d, `used 5 free 15 down false; 1: "abe" 0 3 2; 2: "cd" 0 2 0; 3: "" 0 0 0`)
	must(t, d.Sync(1), d.Sync(1))
	stands(t, "synced again", d, `used 5 free 15 down false; 1: "abe" 0 3 3; 2: "cd" 0 2 0; 3: "" 0 0 0`)
}

// P4.2: Trim
func TestTrim(t *testing.T) {
	for _, c := range []struct {
		n      int
		e      api.Errno
		bytes  string
		synced int
	}{
		{-1, api.ErrArg, "abcd", 2},
		{math.MinInt, api.ErrArg, "abcd", 2},
		{5, api.ErrArg, "abcd", 2},
		{math.MaxInt, api.ErrArg, "abcd", 2},
		{4, api.OK, "abcd", 2},
		{3, api.OK, "abc", 2},
		{2, api.OK, "ab", 2},
		{1, api.OK, "a", 1},
		{0, api.OK, "", 0},
	} {
		d := example(t)
		if e := d.Trim(3, c.n); e != c.e {
			t.Error("Trim to", c.n, e)
		}
		used := len(c.bytes) + 1
		stands(t, fmt.Sprint("trimmed to ", c.n), d, fmt.Sprintf(`used %d free %d down false; 3: %q 0 %d %d; 5: "x" 0 1 0`, used, 20-used, c.bytes, len(c.bytes), c.synced))
		want := fmt.Sprintf(`used %d free %d down false`, c.synced, 20-c.synced)
		if c.synced > 0 {
			want += fmt.Sprintf(`; 3: %q 0 %d %d`, c.bytes[:c.synced], c.synced, c.synced)
		}
		stands(t, fmt.Sprint("trimmed to ", c.n, ", crashed"), d.Crash(), want)
		must(t, d.Append(3, []byte("yz")))
		if b, e := d.Read(3); string(b) != c.bytes+"yz" || e != api.OK || d.Synced(3) != c.synced {
			t.Errorf("behind Trim to %d is appended: %q %d", c.n, b, d.Synced(3))
		}
	}
}

// P4.2: Drop lasts at once, and what comes again under its number is new.
func TestDrop(t *testing.T) {
	d := example(t)
	must(t, d.Sync(5), d.Drop(3))
	stands(t, "dropped", d, `used 1 free 19 down false; 5: "x" 0 1 1`)
	stands(t, "crashed", d.Crash(9, 9), `used 1 free 19 down false; 5: "x" 0 1 1`)
	must(t, d.Append(3, []byte("n")))
	stands(t, "new", d, `used 2 free 18 down false; 3: "n" 0 1 0; 5: "x" 0 1 1`)
}

// P4.3
func TestReads(t *testing.T) {
	d := example(t)
	for _, seg := range []int{-1, math.MinInt, top + 1, math.MaxInt} {
		if b, e := d.Read(seg); len(b) != 0 || e != api.ErrArg || d.Len(seg) != 0 || d.Synced(seg) != 0 {
			t.Error("Read", seg, b, e, d.Len(seg), d.Synced(seg))
		}
	}
	for _, seg := range []int{0, 4, top} {
		if b, e := d.Read(seg); len(b) != 0 || e != api.ErrNone || d.Len(seg) != 0 || d.Synced(seg) != 0 {
			t.Error("Read", seg, b, e, d.Len(seg), d.Synced(seg))
		}
	}
	must(t, d.Append(top), d.Append(0, []byte("0")), d.Append(4, []byte("4")))
	if !slices.Equal(d.Segs(), []int{0, 3, 4, 5, top}) {
		t.Error("Segs", d.Segs())
	}
	if b, e := d.Read(top); len(b) != 0 || e != api.OK {
		t.Error("Read of no bytes", b, e)
	}
}

// P4.3: Room
func TestRoom(t *testing.T) {
	d := example(t)
	for _, n := range []int{-1, math.MinInt, api.MaxDisk + 1, math.MaxInt} {
		if e := d.Room(n); e != api.ErrArg || d.Free() != 15 {
			t.Error("Room", n, e, d.Free())
		}
	}
	for n, free := range map[int]int{0: 0, 4: 0, 5: 0, 6: 1, 100: 95, api.MaxDisk: api.MaxDisk - 5} {
		if e := d.Room(n); e != api.OK || d.Free() != free || d.Used() != 5 {
			t.Error("Room", n, e, d.Free(), d.Used())
		}
	}
	must(t, d.Room(2))
	if d.Append(3, []byte("e")) != api.ErrFull {
		t.Error("appended where there is less than no room")
	}
	must(t, d.Append(3), d.Append(7, nil), d.Sync(3), d.Trim(3, 3))
	stands(t, "used beyond the room", d, `used 4 free 0 down false; 3: "abc" 0 3 3; 5: "x" 0 1 0; 7: "" 0 0 0`)
	if c := d.Crash(); c.Used() != 3 || c.Free() != 0 || c.Append(1, []byte("a")) != api.ErrFull || c.Trim(3, 1) != api.OK || c.Free() != 1 {
		t.Error("the room behind a crash", tells(c))
	}
	d.Fuse(0)
	if d.Sync(3) != api.ErrDown || d.Room(9) != api.OK || d.Free() != 5 {
		t.Error("Room without power", d.Free())
	}
}

// P4.4
func TestFuse(t *testing.T) {
	for n := range 7 {
		d := example(t)
		d.Fuse(n)
		done := 0
		for _, f := range []func() api.Errno{
			func() api.Errno { return d.Append(3, []byte("e")) }, func() api.Errno { return d.Sync(3) }, func() api.Errno { return d.Trim(3, 4) },
			func() api.Errno { return d.Append(3) }, func() api.Errno { return d.Drop(5) }, func() api.Errno { return d.Sync(3) },
		} {
			if d.Down() || d.Sync(77) != api.ErrNone || d.Append(3, make([]byte, 99)) != api.ErrFull || d.Trim(3, -1) != api.ErrArg || d.Drop(-1) != api.ErrArg {
				t.Fatal(n, "changes: a refused call takes one of them, behind", done)
			}
			e := f()
			if done < n && e != api.OK || done >= n && e != api.ErrDown {
				t.Error(n, "changes: behind", done, e)
			}
			if e != api.OK {
				break
			}
			done++
		}
		if done != min(n, 6) || d.Down() != (n < 6) {
			t.Error(n, "changes:", done, d.Down())
		}
	}
}

// P4.4: the last call counts, till the power has failed.
func TestFuseAgain(t *testing.T) {
	d := example(t)
	for _, n := range []int{-1, math.MinInt} {
		d.Fuse(0)
		d.Fuse(n)
		for range 5 {
			must(t, d.Sync(3))
		}
	}
	d.Fuse(5)
	d.Fuse(1)
	must(t, d.Sync(3))
	d.Fuse(2)
	must(t, d.Sync(3), d.Sync(5))
	if d.Down() || d.Sync(3) != api.ErrDown || !d.Down() {
		t.Error("the last fuse does not count")
	}
	for _, n := range []int{-1, 0, 9, math.MaxInt} {
		d.Fuse(n)
		if !d.Down() || d.Sync(3) != api.ErrDown {
			t.Error("the power is there again by Fuse", n)
		}
	}
	if b, e := d.Read(3); string(b) != "abcd" || e != api.OK || d.Len(5) != 1 || d.Used() != 5 || d.Free() != 15 {
		t.Error("what is there can't be read without power", tells(d))
	}
	d = example(t)
	d.Fuse(math.MaxInt)
	must(t, d.Sync(3))
}

// P4.5
func TestCrash(t *testing.T) {
	for _, c := range []struct {
		keeps []int
		want  string
	}{
		{nil, `used 5 free 15; 1: "ab" 2; 8: "ijk" 3`},
		{[]int{0, 0, 0, 0}, `used 5 free 15; 1: "ab" 2; 8: "ijk" 3`},
		{[]int{-1, math.MinInt, -9}, `used 5 free 15; 1: "ab" 2; 8: "ijk" 3`},
		{[]int{1}, `used 6 free 14; 1: "abc" 3; 8: "ijk" 3`},
		{[]int{2}, `used 7 free 13; 1: "abcd" 4; 8: "ijk" 3`},
		{[]int{3}, `used 7 free 13; 1: "abcd" 4; 8: "ijk" 3`},
		{[]int{math.MaxInt, 1}, `used 8 free 12; 1: "abcd" 4; 4: "e" 1; 8: "ijk" 3`},
		{[]int{0, 2, 7, 7}, `used 7 free 13; 1: "ab" 2; 4: "ef" 2; 8: "ijk" 3`},
		{[]int{0, 0, 0, 7, 1}, `used 6 free 14; 1: "ab" 2; 8: "ijk" 3; 9: "m" 1`},
		{[]int{9, 9, 9, 9, 9, 9}, `used 11 free 9; 1: "abcd" 4; 4: "ef" 2; 8: "ijk" 3; 9: "mn" 2`},
	} {
		d := made(t, 20)
		must(t, d.Append(9, []byte("mn")), d.Append(8, []byte("ijk")), d.Append(4, []byte("ef")), d.Append(1, []byte("ab")), d.Append(6), d.Sync(6), d.Sync(8), d.Sync(1), d.Append(1, []byte("cd")))
		d.Fuse(0)
		if d.Sync(1) != api.ErrDown {
			t.Fatal("the power does not fail")
		}
		before, keeps := tells(d), slices.Clone(c.keeps)
		x := d.Crash(c.keeps...)
		got := fmt.Sprint("used ", x.Used(), " free ", x.Free())
		for _, seg := range x.Segs() {
			b, e := x.Read(seg)
			got += fmt.Sprintf("; %d: %q %d", seg, b, x.Synced(seg))
			if e != api.OK || x.Len(seg) != len(b) {
				t.Error(c.keeps, seg, e, x.Len(seg))
			}
		}
		if got != c.want {
			t.Errorf("Crash(%d): %s\nnot %s", c.keeps, got, c.want)
		}
		stands(t, "the one that crashed", d, before)
		if !slices.Equal(keeps, c.keeps) {
			t.Error("keeps are changed")
		}
		if x.Down() || x.Append(2, []byte("z")) != api.OK || x.Sync(2) != api.OK {
			t.Error(c.keeps, "no power behind the crash")
		}
		stands(t, "the one that crashed, behind a change of what lasts", d, before)
	}
}

// P4.5: a tape whose power has not failed may crash, too, and goes on; its fuse is its own.
func TestCrashUnderPower(t *testing.T) {
	d := example(t)
	d.Fuse(1)
	c := d.Crash(9, 9)
	must(t, c.Append(3, []byte("new")), c.Drop(5), c.Sync(3), d.Append(3, []byte("old")))
	if d.Sync(3) != api.ErrDown || c.Down() {
		t.Error("the fuse", d.Down(), c.Down())
	}
	stands(t, "the first one", d, `used 8 free 12 down true; 3: "abcdold" 0 7 2; 5: "x" 0 1 0`)
	stands(t, "the other one", c, `used 7 free 13 down false; 3: "abcdnew" 0 7 7`)
	stands(t, "that one, crashed", c.Crash(), `used 7 free 13 down false; 3: "abcdnew" 0 7 7`)
}

// P4.8 and the rules
func TestShareNothing(t *testing.T) {
	d := made(t, 100)
	part := append(make([]byte, 0, 9), "part"...)
	must(t, d.Append(1, part, part), d.Append(2, part))
	if string(part[:9]) != "part\x00\x00\x00\x00\x00" {
		t.Errorf("a part was written into: %q", part[:9])
	}
	clear(part)
	want := `used 12 free 88 down false; 1: "partpart" 0 8 0; 2: "part" 0 4 0`
	stands(t, "the part was written into", d, want)

	a, _ := d.Read(1)
	b, _ := d.Read(1)
	c := d.Crash(8, 8)
	clear(a)
	_ = append(a, "written behind it"...)
	segs := d.Segs()
	clear(segs)
	_ = append(segs, 7)
	stands(t, "what was read was written into", d, want)
	stands(t, "and it crashed ahead of that", c, `used 12 free 88 down false; 1: "partpart" 0 8 8; 2: "part" 0 4 4`)
	must(t, d.Trim(1, 2), d.Append(1, []byte("xyz")))
	if string(b) != "partpart" {
		t.Errorf("what was read is changed: %q", b)
	}
	stands(t, "and the tape was changed behind that", c, `used 12 free 88 down false; 1: "partpart" 0 8 8; 2: "part" 0 4 4`)
	if e := d.Append(3, bytes.Repeat([]byte("b"), 91)); e != api.OK || d.Used() != 100 {
		t.Error("what is trimmed is not free", e, d.Used())
	}
}
