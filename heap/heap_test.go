package heap_test

import (
	"bytes"
	"fmt"
	"math"
	"slices"
	"testing"

	"byroad/api"
	"byroad/cells"
	"byroad/heap"
	"byroad/journal"
	"byroad/octet"
	"byroad/tape"
)

const (
	lastMark = 1 << 30
	longest  = api.MaxBody - 1 // bytes of a record
)

// disk is a tape of that room.
func disk(t *testing.T, room int) *tape.Tape {
	t.Helper()
	k, e := tape.New(room)
	is(t, "the tape's New", e, api.OK)
	return k
}

// open is the heap on a tape.
func open(t *testing.T, k *tape.Tape) *heap.Heap {
	t.Helper()
	h, e := heap.Open(k, 4000)
	if e != api.OK || h == nil {
		t.Fatal("Open", e)
	}
	return h
}

// fresh is a heap on an empty tape, and that.
func fresh(t *testing.T) (*heap.Heap, *tape.Tape) {
	t.Helper()
	k := disk(t, 80000)
	return open(t, k), k
}

// is fails the test, if a call does not answer just that.
func is(t *testing.T, what string, got, want api.Errno) {
	t.Helper()
	if got != want {
		t.Fatal(what, "answers", got, "not", want)
	}
}

// row is a row.
func row(key string, n int64) api.Row { return api.Row{Key: key, N: n} }

// put and del are changes.
func put(key string, n int64) cells.Change { return cells.Change{Key: key, N: n, There: true} }
func del(key string) cells.Change          { return cells.Change{Key: key} }

// puts is the changes that put 1 to so many keys, k000 and so on.
func puts(n int) []cells.Change {
	var l []cells.Change
	for i := range n {
		l = append(l, put(fmt.Sprintf("k%03d", i), 1))
	}
	return l
}

// holds fails the test, if a heap does not tell just these rows, also key by key.
func holds(t *testing.T, h *heap.Heap, want ...api.Row) {
	t.Helper()
	if got := h.Rows(); !slices.Equal(got, want) || h.Len() != len(want) || h.Live() != len(want) {
		t.Fatal("rows", got, h.Len(), h.Live(), "not", want)
	}
	for _, r := range want {
		if n, there := h.Get(r.Key); n != r.N || !there {
			t.Fatal("Get", r.Key, n, there)
		}
	}
}

// numbers fails the test, if a heap has not just so many dead entries, and that mark.
func numbers(t *testing.T, h *heap.Heap, dead, mark int) {
	t.Helper()
	if h.Dead() != dead || h.Mark() != mark {
		t.Fatal("dead", h.Dead(), "not", dead, "mark", h.Mark(), "not", mark)
	}
}

// nothing fails the test, if one of the keys holds anything.
func nothing(t *testing.T, h *heap.Heap, keys ...string) {
	t.Helper()
	for _, key := range keys {
		if n, there := h.Get(key); n != 0 || there {
			t.Fatal("Get", key, n, there)
		}
	}
}

// record is the bytes of a record, or of a state.
func record(mark uint64, l ...cells.Change) []byte {
	return octet.Seq(octet.Nat(mark), cells.Encode(l...))
}

// whole is what a tape would be if all that is on it lasted.
func whole(k *tape.Tape) *tape.Tape {
	return k.Crash(slices.Repeat([]int{api.MaxDisk}, api.MaxSegs)...)
}

// logs fails the test, if what lasts of a tape is not a log of just that state and these records.
func logs(t *testing.T, k *tape.Tape, state []byte, want ...[]byte) {
	t.Helper()
	j, e := journal.Open(k.Crash(), 16)
	is(t, "the journal's Open", e, api.OK)
	if !bytes.Equal(j.State(), state) || !slices.EqualFunc(j.Recs(), want, bytes.Equal) {
		t.Fatalf("the log has %x and %x\nnot %x and %x", j.State(), j.Recs(), state, want)
	}
}

// saved is a tape with a checkpoint of that state, and records behind it.
func saved(t *testing.T, state []byte, recs ...[]byte) *tape.Tape {
	t.Helper()
	k := disk(t, 80000)
	j, e := journal.Open(k, 16000)
	is(t, "the journal's Open", e, api.OK)
	is(t, "the journal's Save", j.Save(state), api.OK)
	is(t, "the journal's Write", j.Write(recs...), api.OK)
	return k
}

// P15
func TestNil(t *testing.T) {
	for what, h := range map[string]*heap.Heap{"nil": nil, "one that Open did not make": {}} {
		for call, e := range map[string]api.Errno{"Put": h.Put(1, put("x", 1)), "Put of no mark": h.Put(-1), "Compact": h.Compact()} {
			if e != api.ErrNil {
				t.Error(what, call, e)
			}
		}
		nothing(t, h, "", "x")
		holds(t, h)
		numbers(t, h, 0, 0)
	}
}

// The chapter's example.
func TestExample(t *testing.T) {
	h, _ := fresh(t)
	is(t, "Put", h.Put(1, put("x", 5), put("y", 6)), api.OK)
	is(t, "Put", h.Put(2, del("x")), api.OK)
	holds(t, h, row("y", 6))
	numbers(t, h, 2, 2)
	is(t, "Compact", h.Compact(), api.OK)
	holds(t, h, row("y", 6))
	numbers(t, h, 0, 2)
}

// P15.1: state and records, in order.
func TestOpen(t *testing.T) {
	state := record(7, put("a", 1), put("b", -2), put("c", 3))
	for what, c := range map[string]struct {
		k          *tape.Tape
		rows       []api.Row
		dead, mark int
	}{
		"an empty tape":        {disk(t, 0), nil, 0, 0},
		"a state of no bytes":  {saved(t, nil), nil, 0, 0},
		"a state of no rows":   {saved(t, record(0)), nil, 0, 0},
		"a mark alone":         {saved(t, record(lastMark)), nil, 0, lastMark},
		"a state":              {saved(t, state), []api.Row{row("a", 1), row("b", -2), row("c", 3)}, 0, 7},
		"a record":             {saved(t, nil, record(3, put("b", 2), put("a", 1))), []api.Row{row("a", 1), row("b", 2)}, 0, 3},
		"a record of nothing":  {saved(t, nil, record(lastMark)), nil, 0, lastMark},
		"a key of no bytes":    {saved(t, record(0, put("", 4), put("a", 1)), record(0, put("a", 2))), []api.Row{row("", 4), row("a", 2)}, 1, 0},
		"the longest key":      {saved(t, record(0, put("abcdefghijklmnop", 4))), []api.Row{row("abcdefghijklmnop", 4)}, 0, 0},
		"any bytes of a key":   {saved(t, record(0, put("\x00\xff", 4), put("~t", 1))), []api.Row{row("\x00\xff", 4), row("~t", 1)}, 0, 0},
		"a lesser mark":        {saved(t, state, record(6, put("d", 4))), []api.Row{row("a", 1), row("b", -2), row("c", 3), row("d", 4)}, 0, 7},
		"marks in any order":   {saved(t, state, record(6), record(9), record(8)), []api.Row{row("a", 1), row("b", -2), row("c", 3)}, 0, 9},
		"the last one counts":  {saved(t, state, record(9, put("b", 9)), record(8, put("b", 8))), []api.Row{row("a", 1), row("b", 8), row("c", 3)}, 2, 9},
		"twice in a record":    {saved(t, nil, record(1, put("a", 1), put("a", 2), del("b"))), []api.Row{row("a", 2)}, 2, 1},
		"nothing, and again":   {saved(t, state, record(8, del("a"), del("a"), put("a", 6))), []api.Row{row("a", 6), row("b", -2), row("c", 3)}, 3, 8},
		"nothing of all":       {saved(t, state, record(8, del("c"), del("b")), record(8, del("a"), del("z"))), nil, 7, 8},
		"the same once more":   {saved(t, state, record(8, put("a", 1))), []api.Row{row("a", 1), row("b", -2), row("c", 3)}, 1, 8},
		"the greatest numbers": {saved(t, nil, record(1, put("a", math.MaxInt64), put("b", math.MinInt64))), []api.Row{row("a", math.MaxInt64), row("b", math.MinInt64)}, 0, 1},
	} {
		for range 2 {
			h := open(t, c.k)
			t.Log(what)
			holds(t, h, c.rows...)
			numbers(t, h, c.dead, c.mark)
		}
	}
}

// P15.1: the journal's errors.
func TestOpenRefused(t *testing.T) {
	torn := disk(t, 100)
	is(t, "Append", torn.Append(0, []byte("torn")), api.OK)
	torn.Fuse(0)
	bad := saved(t, nil, []byte("what?"))
	for what, c := range map[string]struct {
		k    *tape.Tape
		seg  int
		want api.Errno
	}{
		"no tape":                {nil, 200, api.ErrNil},
		"no tape, too few":       {nil, 15, api.ErrNil},
		"too few":                {disk(t, 100), 15, api.ErrArg},
		"below 0":                {disk(t, 100), math.MinInt, api.ErrArg},
		"too many":               {disk(t, 100), api.MaxDisk + 1, api.ErrArg},
		"too few, and no record": {bad, 15, api.ErrArg},
		"no power":               {torn, 200, api.ErrDown},
	} {
		if h, e := heap.Open(c.k, c.seg); h != nil || e != c.want {
			t.Error(what, e)
		}
	}
	for _, seg := range []int{16, api.MaxDisk} {
		if h, e := heap.Open(disk(t, 0), seg); h == nil || e != api.OK {
			t.Error(seg, e)
		}
	}
}

// P15.1: a state or a record that is none, or too many rows at some time.
func TestOpenForm(t *testing.T) {
	good := record(3, put("x", 1))
	two := record(1, put("x", 1), del("y"))
	full := record(5, puts(api.MaxRows)...)
	for what, k := range map[string]*tape.Tape{
		"no mark":                  saved(t, []byte{9}),
		"a nought ahead":           saved(t, octet.Seq([]byte{2, 0, 5}, cells.Encode())),
		"no changes":               saved(t, octet.Nat(3)),
		"cut":                      saved(t, good[:len(good)-1]),
		"longer":                   saved(t, append(slices.Clone(good), 0)),
		"a mark too great":         saved(t, record(lastMark+1)),
		"a mark far beyond":        saved(t, record(math.MaxUint64)),
		"a mark of 33 bits":        saved(t, record(1<<32+3)),
		"a state's key twice":      saved(t, record(3, put("x", 1), put("x", 1))),
		"rows that fall":           saved(t, record(3, put("y", 1), put("x", 1))),
		"a row of nothing":         saved(t, record(3, del("x"))),
		"a long key":               saved(t, record(3, put("abcdefghijklmnopq", 1))),
		"one row too many":         saved(t, record(3, puts(api.MaxRows+1)...)),
		"no record":                saved(t, good, two, []byte("what?")),
		"an empty record":          saved(t, good, nil, two),
		"a record that is cut":     saved(t, good, two[:len(two)-1]),
		"a record's cut text":      saved(t, good, two[:len(two)-3]),
		"a longer record":          saved(t, good, append(slices.Clone(two), 0)),
		"more changes than bytes":  saved(t, nil, octet.Seq(octet.Nat(1), octet.Nat(math.MaxUint64), []byte{0, 0})),
		"fewer changes than bytes": saved(t, nil, octet.Seq(octet.Nat(1), octet.Nat(1), []byte{0, 0, 0, 0})),
		"neither there nor not":    saved(t, nil, octet.Seq(octet.Nat(1), octet.Nat(1), []byte{0, 2})),
		"a record's mark":          saved(t, nil, record(lastMark+1, put("x", 1))),
		"a record's mark beyond":   saved(t, nil, record(math.MaxUint64, put("x", 1))),
		"a record's long key":      saved(t, nil, record(1, del("abcdefghijklmnopq"))),
		"rows by a record":         saved(t, nil, record(1, puts(api.MaxRows+1)...)),
		"rows by one more":         saved(t, full, record(5, put("x", 1))),
		"rows at some time":        saved(t, full, record(5, put("x", 1), del("k000"))),
		"rows at some time before": saved(t, full, record(5, put("x", 1)), record(6, del("x"))),
	} {
		if h, e := heap.Open(k, 200); h != nil || e != api.ErrForm {
			t.Error(what, e)
		}
	}
	for what, k := range map[string]*tape.Tape{
		"full":          saved(t, full),
		"full by one":   saved(t, nil, record(1, puts(api.MaxRows)...)),
		"full by two":   saved(t, record(9, puts(api.MaxRows)[1:]...), record(9, put("k000", 1))),
		"changed, full": saved(t, full, record(6, put("k000", 1), put("k000", 9))),
		"one for one":   saved(t, full, record(6, del("k000"), put("x", 9))),
	} {
		if h := open(t, k); h.Len() != api.MaxRows {
			t.Error(what, h.Len())
		}
	}
}

// P15.2: what is written, byte by byte, and it lasts at once.
func TestPut(t *testing.T) {
	h, k := fresh(t)
	is(t, "Put", h.Put(3, put("y", 1), put("b", 2), put("y", -7), del("z")), api.OK)
	one := record(3, put("y", 1), put("b", 2), put("y", -7), del("z"))
	logs(t, k, nil, one)
	holds(t, h, row("b", 2), row("y", -7))
	numbers(t, h, 2, 3)
	is(t, "Put", h.Put(0), api.OK) // of nothing, that is a record too
	is(t, "Put", h.Put(lastMark, del("y")), api.OK)
	is(t, "Put", h.Put(2, put("", 8), put("abcdefghijklmnop", math.MinInt64)), api.OK)
	logs(t, k, nil, one, record(0), record(lastMark, del("y")), record(2, put("", 8), put("abcdefghijklmnop", math.MinInt64)))
	want := []api.Row{row("", 8), row("abcdefghijklmnop", math.MinInt64), row("b", 2)}
	holds(t, h, want...)
	nothing(t, h, "y", "z", "B", "\x00", "abcdefghijklmno")
	numbers(t, h, 4, lastMark)
	b := open(t, k.Crash())
	holds(t, b, want...)
	numbers(t, b, 4, lastMark)
}

// P15.2: of several errors the first one, and nothing is changed by any.
func TestPutRefused(t *testing.T) {
	start := puts(api.MaxRows - 1)
	long := slices.Repeat([]cells.Change{del("abcdefghijklmnop")}, 1000)
	for what, c := range map[string]struct {
		room int // what is free
		down bool
		mark int
		l    []cells.Change
		want api.Errno
	}{
		"a mark below 0":           {99, false, -1, nil, api.ErrArg},
		"the least mark":           {99, false, math.MinInt, nil, api.ErrArg},
		"a mark too great":         {99, false, lastMark + 1, nil, api.ErrArg},
		"the greatest mark":        {99, false, math.MaxInt, nil, api.ErrArg},
		"a long key":               {99, false, 1, []cells.Change{put("x", 1), put("abcdefghijklmnopq", 1)}, api.ErrArg},
		"a long key of nothing":    {99, false, 1, []cells.Change{del("abcdefghijklmnopq")}, api.ErrArg},
		"nothing that is 1":        {99, false, 1, []cells.Change{{Key: "x", N: 1}}, api.ErrArg},
		"rows, and a mark":         {99, false, -1, []cells.Change{put("x", 1), put("y", 1)}, api.ErrArg},
		"rows, and a change":       {99, false, 1, []cells.Change{put("x", 1), put("y", 1), {Key: "x", N: 1}}, api.ErrArg},
		"too long, and a mark":     {99, false, -1, long, api.ErrArg},
		"too many rows":            {99, false, 1, []cells.Change{put("x", 1), put("y", 1)}, api.ErrFull},
		"too many at some time":    {99, false, 1, []cells.Change{put("x", 1), put("y", 1), del("k000")}, api.ErrFull},
		"too many, and too long":   {99, false, 1, append(long, put("x", 1), put("y", 1)), api.ErrFull},
		"too long":                 {99, false, 1, long, api.ErrLong},
		"too long, and no room":    {9, false, 1, long, api.ErrLong},
		"no room":                  {9, false, 1, []cells.Change{put("x", 1)}, api.ErrFull},
		"no room for nothing":      {9, false, 1, nil, api.ErrFull},
		"no power, and a mark":     {99, true, -1, nil, api.ErrArg},
		"no power, and many rows":  {99, true, 1, []cells.Change{put("x", 1), put("y", 1)}, api.ErrFull},
		"no power, and too long":   {99, true, 1, long, api.ErrLong},
		"no power":                 {99, true, 1, []cells.Change{put("x", 1)}, api.ErrDown},
		"no power, for nothing":    {99, true, 1, nil, api.ErrDown},
		"no power, and no room":    {0, true, 1, []cells.Change{put("x", 1)}, api.ErrDown},
		"no power, a row that was": {99, true, 1, []cells.Change{put("k000", 7), del("k001")}, api.ErrDown},
	} {
		h, k := fresh(t)
		is(t, "Put", h.Put(4, start...), api.OK)
		is(t, "Room", k.Room(k.Used()+c.room), api.OK)
		if c.down {
			k.Fuse(0)
			is(t, "Sync", k.Sync(0), api.ErrDown)
		}
		rows := h.Rows()
		if e := h.Put(c.mark, c.l...); e != c.want {
			t.Error(what, e)
		}
		holds(t, h, rows...)
		nothing(t, h, "x", "y")
		numbers(t, h, 0, 4)
		logs(t, k, nil, record(4, start...))
		if !c.down {
			is(t, "Room", k.Room(80000), api.OK)
			is(t, what+", then Put", h.Put(5, put("x", 1)), api.OK)
			numbers(t, h, 0, 5)
			logs(t, k, nil, record(4, start...), record(5, put("x", 1)))
		}
	}
}

// P15.2: rows are counted one by one.
func TestPutFull(t *testing.T) {
	h, k := fresh(t)
	is(t, "one too many", h.Put(1, puts(api.MaxRows+1)...), api.ErrFull)
	numbers(t, h, 0, 0)
	is(t, "all", h.Put(1, puts(api.MaxRows)...), api.OK)
	is(t, "one more", h.Put(1, put("x", 1)), api.ErrFull)
	is(t, "one ahead", h.Put(1, put("x", 1), del("k000")), api.ErrFull)
	is(t, "one for one", h.Put(1, del("k000"), put("x", 1)), api.OK)
	is(t, "what is there", h.Put(1, put("k001", 7), put("x", 2)), api.OK)
	is(t, "nothing for one", h.Put(1, del("y"), put("k000", 1)), api.ErrFull)
	if h.Len() != api.MaxRows || h.Dead() != 4 {
		t.Error(h.Len(), h.Dead())
	}
	b := open(t, k.Crash())
	holds(t, b, h.Rows()...)
	numbers(t, b, 4, 1)
}

// P15.2: the longest record, in bytes and in changes, is opened again; one byte more is too long.
func TestPutLong(t *testing.T) {
	for what, part := range map[string]cells.Change{"a long key": del("abcdefghijklmnop"), "no bytes": del(""), "a number": put("", 0)} {
		l := []cells.Change{put("x", 1)}
		for len(record(1, append(l, part)...)) <= longest {
			l = append(l, part)
		}
		for len(record(1, l...)) < longest { // one byte more each
			l[0].Key += "x"
		}
		h, k := fresh(t)
		is(t, what, h.Put(lastMark, l...), api.ErrLong) // its bytes are more
		is(t, what, h.Put(1, append(l, part)...), api.ErrLong)
		numbers(t, h, 0, 0)
		is(t, what, h.Put(1, l...), api.OK)
		logs(t, k, nil, record(1, l...))
		b := open(t, k.Crash())
		holds(t, b, h.Rows()...)
		numbers(t, b, len(l)-h.Live(), 1)
		is(t, what, b.Compact(), api.OK)
		holds(t, b, h.Rows()...)
	}
}

// P15.2: without power nothing is seen, whatever of the record lasts.
func TestPutDown(t *testing.T) {
	for fuse := range 2 {
		h, k := fresh(t)
		is(t, "Put", h.Put(1, put("x", 1), put("y", 1)), api.OK)
		k.Fuse(fuse)
		for range 2 {
			is(t, "Put", h.Put(2, put("x", 2), del("y"), put("z", 3)), api.ErrDown)
			holds(t, h, row("x", 1), row("y", 1))
			nothing(t, h, "z")
			numbers(t, h, 0, 1)
		}
		is(t, "Compact", h.Compact(), api.ErrDown)
		b := open(t, k.Crash())
		holds(t, b, row("x", 1), row("y", 1))
		numbers(t, b, 0, 1)
		b = open(t, whole(k))
		if fuse == 0 {
			holds(t, b, row("x", 1), row("y", 1))
			numbers(t, b, 0, 1)
		} else {
			holds(t, b, row("x", 2), row("z", 3))
			numbers(t, b, 3, 2)
		}
	}
}

// P15.3, P15.6: what is live is written anew, byte by byte; rows and mark stay.
func TestCompact(t *testing.T) {
	h, k := fresh(t)
	is(t, "Compact", h.Compact(), api.OK)
	logs(t, k, record(0))
	numbers(t, h, 0, 0)
	for i := range 5 {
		is(t, "Put", h.Put(9-i, put("y", int64(i)), put("b", -1), del("z"), put("", 2)), api.OK)
	}
	rows := []api.Row{row("", 2), row("b", -1), row("y", 4)}
	holds(t, h, rows...)
	numbers(t, h, 17, 9)
	state := record(9, put("", 2), put("b", -1), put("y", 4))
	for range 2 {
		is(t, "Compact", h.Compact(), api.OK)
		logs(t, k, state)
		holds(t, h, rows...)
		nothing(t, h, "z")
		numbers(t, h, 0, 9)
		if len(k.Segs()) != 1 {
			t.Error(k.Segs())
		}
	}
	is(t, "Put", h.Put(3, put("b", 5), del(""), put("c", 1)), api.OK)
	holds(t, h, row("b", 5), row("c", 1), row("y", 4))
	numbers(t, h, 3, 9)
	logs(t, k, state, record(3, put("b", 5), del(""), put("c", 1)))
	b := open(t, k.Crash())
	holds(t, b, row("b", 5), row("c", 1), row("y", 4))
	numbers(t, b, 3, 9)
}

// P15.3: without rows a mark stays; with as many as there may be, of the longest bytes, there is room in a checkpoint.
func TestCompactEdges(t *testing.T) {
	h, k := fresh(t)
	is(t, "Put", h.Put(lastMark, put("x", 1), del("x")), api.OK)
	is(t, "Compact", h.Compact(), api.OK)
	logs(t, k, record(lastMark))
	numbers(t, open(t, k), 0, lastMark)
	h, k = fresh(t)
	var l []cells.Change
	for i := range api.MaxRows {
		l = append(l, put(fmt.Sprintf("abcdefghijklm%03d", i), math.MinInt64))
	}
	is(t, "Put", h.Put(lastMark, l...), api.OK)
	is(t, "Put", h.Put(lastMark, l...), api.OK)
	numbers(t, h, api.MaxRows, lastMark)
	is(t, "Compact", h.Compact(), api.OK)
	numbers(t, h, 0, lastMark)
	logs(t, k, record(lastMark, l...))
	holds(t, open(t, k), h.Rows()...)
}

// P15.3: without room nothing is changed.
func TestCompactRefused(t *testing.T) {
	h, k := fresh(t)
	is(t, "Put", h.Put(1, put("x", 1), put("x", 2)), api.OK)
	is(t, "Room", k.Room(k.Used()), api.OK)
	is(t, "Compact", h.Compact(), api.ErrFull)
	holds(t, h, row("x", 2))
	numbers(t, h, 1, 1)
	logs(t, k, nil, record(1, put("x", 1), put("x", 2)))
	is(t, "Room", k.Room(1000), api.OK)
	is(t, "Put", h.Put(2, put("y", 1)), api.OK)
	numbers(t, h, 1, 2)
	logs(t, k, nil, record(1, put("x", 1), put("x", 2)), record(2, put("y", 1)))
	is(t, "Compact", h.Compact(), api.OK)
	logs(t, k, record(2, put("x", 2), put("y", 1)))
	numbers(t, h, 0, 2)
}

// P15.3, P15.5, P15.6: without power what lasts are the same rows, and the same mark.
func TestCompactDown(t *testing.T) {
	const changes = 5 // two syncs, a checkpoint, and two segments that go
	for fuse := range changes + 1 {
		for keep := range 40 {
			k := disk(t, 1000)
			h, e := heap.Open(k, 16)
			is(t, "Open", e, api.OK)
			is(t, "Put", h.Put(3, put("x", 1), put("y", 1)), api.OK)
			is(t, "Put", h.Put(2, put("x", 2), del("y")), api.OK)
			k.Fuse(fuse)
			want := api.ErrDown
			if fuse == changes {
				want = api.OK
			}
			is(t, "Compact", h.Compact(), want)
			holds(t, h, row("x", 2))
			if h.Mark() != 3 {
				t.Fatal(h.Mark())
			}
			b := open(t, cut(k, keep))
			holds(t, b, row("x", 2))
			if b.Mark() != 3 || b.Dead() != 3 && b.Dead() != 0 {
				t.Fatal(b.Mark(), b.Dead())
			}
		}
	}
}

// cut is a tape behind a loss of power that keeps so many bytes of its last segment's tail.
func cut(k *tape.Tape, keep int) *tape.Tape {
	return k.Crash(append(make([]int, max(0, len(k.Segs())-1)), keep)...)
}

// P15.4 and the rules: what is told, and what is handed in, is shared with nothing.
func TestShared(t *testing.T) {
	h, k := fresh(t)
	l := []cells.Change{put("x", 1), put("y", 2), del("z")}
	is(t, "Put", h.Put(1, l...), api.OK)
	if !slices.Equal(l, []cells.Change{put("x", 1), put("y", 2), del("z")}) {
		t.Error(l)
	}
	clear(l)
	want := []api.Row{row("x", 1), row("y", 2)}
	holds(t, h, want...)
	clear(h.Rows())
	_ = append(h.Rows()[:1], row("a", 9))
	holds(t, h, want...)
	is(t, "Compact", h.Compact(), api.OK)
	clear(h.Rows())
	holds(t, h, want...)
	logs(t, k, record(1, put("x", 1), put("y", 2)))
}
