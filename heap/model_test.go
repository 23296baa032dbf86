package heap_test

import (
	"fmt"
	"math"
	"math/rand"
	"slices"
	"testing"

	"byroad/api"
	"byroad/cells"
	"byroad/heap"
	"byroad/tape"
)

// model is the chapter's words: the log's entries, in order, and its greatest mark.
type model struct {
	entries []cells.Change
	mark    int
}

// rows is the live entries, by rising keys.
func (m model) rows() []api.Row {
	held := map[string]int64{}
	for _, c := range m.entries {
		delete(held, c.Key)
		if c.There {
			held[c.Key] = c.N
		}
	}
	var l []api.Row
	for key, n := range held {
		l = append(l, row(key, n))
	}
	slices.SortFunc(l, func(a, b api.Row) int {
		if a.Key < b.Key {
			return -1
		}
		return 1
	})
	return l
}

// put is the model with one record more; false, if there are too many rows at some time.
func (m model) put(mark int, l []cells.Change) (model, bool) {
	m.entries = slices.Clone(m.entries)
	for _, c := range l {
		m.entries = append(m.entries, c)
		if len(m.rows()) > api.MaxRows {
			return model{}, false
		}
	}
	m.mark = max(m.mark, mark)
	return m, true
}

// compacted is the model of its live entries alone.
func (m model) compacted() model {
	c := model{mark: m.mark}
	for _, r := range m.rows() {
		c.entries = append(c.entries, put(r.Key, r.N))
	}
	return c
}

// is tells whether a heap is just that.
func (m model) is(h *heap.Heap) bool {
	rows := m.rows()
	return slices.Equal(h.Rows(), rows) && h.Len() == len(rows) && h.Live() == len(rows) && h.Dead() == len(m.entries)-len(rows) && h.Mark() == m.mark
}

// life is a heap from one loss of power to the next one.
type life struct {
	t     *testing.T
	r     *rand.Rand
	k     *tape.Tape
	h     *heap.Heap
	m     model
	under *model // what the call that was under way would have come to
	seen  map[string]int
}

// changes is some changes of a few keys; now and then one of them may not be.
func (l *life) changes() []cells.Change {
	var all []cells.Change
	for range l.r.Intn(5) {
		c := cells.Change{Key: []string{"a", "b", "c", "d", "", "~t"}[l.r.Intn(6)]}
		if l.r.Intn(3) > 0 {
			c = put(c.Key, []int64{0, 1, -1, 7, math.MaxInt64, math.MinInt64}[l.r.Intn(6)])
		}
		if l.r.Intn(50) == 0 {
			c = []cells.Change{{Key: "a", N: 1}, put("abcdefghijklmnopq", 1)}[l.r.Intn(2)]
		}
		all = append(all, c)
	}
	return all
}

// put does some Put of both.
func (l *life) put() api.Errno {
	mark, all := l.r.Intn(20), l.changes()
	if l.r.Intn(30) == 0 {
		mark = -1 - mark
	}
	e := l.h.Put(mark, all...)
	next, _ := l.m.put(mark, all)
	may := mark >= 0 && !slices.ContainsFunc(all, func(c cells.Change) bool { return len(c.Key) > api.MaxKey || !c.There && c.N != 0 })
	switch {
	case !may:
		is(l.t, "Put", e, api.ErrArg)
	case e == api.OK:
		l.m = next
	case e == api.ErrDown:
		l.under = &next
	default:
		is(l.t, "Put", e, api.ErrFull)
	}
	l.seen[fmt.Sprint("Put ", e)]++
	return e
}

// compact does a Compact of both.
func (l *life) compact() api.Errno {
	e := l.h.Compact()
	next := l.m.compacted()
	switch e {
	case api.OK:
		l.m = next
	case api.ErrDown:
		l.under = &next
	default:
		is(l.t, "Compact", e, api.ErrFull)
	}
	l.seen[fmt.Sprint("Compact ", e)]++
	return e
}

// call does something of both.
func (l *life) call() api.Errno {
	switch l.r.Intn(12) {
	case 0:
		return l.compact()
	case 1:
		return l.k.Room(l.k.Used() + l.r.Intn(300))
	case 2:
		if b, e := heap.Open(whole(l.k), 64); e != api.OK || !l.m.is(b) {
			l.t.Fatal("opened in between", e, b.Rows(), b.Dead(), b.Mark(), "not", l.m)
		}
		return api.OK
	}
	return l.put()
}

// fail lets the power fail, also while the heap is opened again, and goes on with what lasts.
func (l *life) fail() {
	var keeps []int
	for range len(l.k.Segs()) {
		keeps = append(keeps, l.r.Intn(60)-3)
	}
	x := l.k.Crash(keeps...)
	x.Fuse(l.r.Intn(3))
	seg := 16 + l.r.Intn(100)
	if _, e := heap.Open(x, seg); e != api.OK {
		is(l.t, "Open", e, api.ErrDown)
		l.seen["down by Open"]++
		x = x.Crash(l.r.Intn(60), l.r.Intn(60), l.r.Intn(60))
	}
	x.Fuse(-1)
	is(l.t, "Room", x.Room(x.Used()+l.r.Intn(2000)), api.OK)
	for range 2 {
		h, e := heap.Open(x, seg)
		is(l.t, "Open", e, api.OK)
		l.lasts(h)
		l.h = h
	}
	l.k, l.under = x, nil
}

// lasts fails the test, if a heap is not one that may be behind the loss of power; else it is the model from now on.
func (l *life) lasts(h *heap.Heap) {
	l.t.Helper()
	if l.m.is(h) {
		return
	}
	if l.under == nil || !l.under.is(h) {
		l.t.Fatal("there last", h.Rows(), h.Dead(), h.Mark(), "not", l.m, "nor", l.under)
	}
	l.seen[fmt.Sprint("it lasts, of the same rows: ", slices.Equal(l.m.rows(), h.Rows()))]++
	l.m = *l.under
}

// P15.2 to P15.6: anything is done, now and then without room, till the power fails at some change of the tape, again and again on one tape.
func TestLives(t *testing.T) {
	seen := map[string]int{}
	for seed := range 400 {
		r := rand.New(rand.NewSource(int64(seed)))
		k := disk(t, 3000)
		h, e := heap.Open(k, 16+r.Intn(100))
		is(t, "Open", e, api.OK)
		l := &life{t: t, r: r, k: k, h: h, seen: seen}
		for range 6 {
			l.k.Fuse(r.Intn(40))
			for range 60 {
				e := l.call()
				if !l.m.is(l.h) {
					t.Fatal(seed, l.h.Rows(), l.h.Dead(), l.h.Mark(), "not", l.m)
				}
				if l.k.Down() {
					seen[fmt.Sprint("down by ", e)]++
					break
				}
			}
			l.fail()
		}
	}
	for _, want := range []string{"Put 0", "Put 2", "Put 5", "Put 8", "Compact 0", "Compact 5", "Compact 8", "down by 8", "down by Open", "it lasts, of the same rows: true", "it lasts, of the same rows: false"} {
		if seen[want] == 0 {
			t.Error("never seen:", want)
		}
	}
}

// P15.2, P15.4: near the limit of rows.
func TestLivesFull(t *testing.T) {
	seen := map[api.Errno]int{}
	for seed := range 10 {
		r := rand.New(rand.NewSource(int64(seed)))
		h, k := fresh(t)
		m, _ := model{}.put(0, puts(api.MaxRows-3))
		is(t, "Put", h.Put(0, m.entries...), api.OK)
		for range 60 {
			var l []cells.Change
			for range r.Intn(6) {
				c := del(fmt.Sprintf("k%03d", 246+r.Intn(16)))
				c.There = r.Intn(3) > 0
				l = append(l, c)
			}
			e := h.Put(1, l...)
			seen[e]++
			next, fits := m.put(1, l)
			if fits != (e == api.OK) || !fits && e != api.ErrFull {
				t.Fatal(seed, l, e)
			}
			if fits {
				m = next
			}
			if r.Intn(9) == 0 {
				is(t, "Compact", h.Compact(), api.OK)
				m = m.compacted()
			}
			if b := open(t, k.Crash()); !m.is(h) || !m.is(b) {
				t.Fatal(seed, h.Rows(), h.Dead(), b.Rows(), b.Dead(), "not", m)
			}
		}
	}
	for _, e := range []api.Errno{api.OK, api.ErrFull} {
		if seen[e] == 0 {
			t.Error("never seen:", e)
		}
	}
}

// P15.5: of one Put, with the power failing at each change and with each beginning of what was not synced, what lasts.
func TestLastsAtEachCut(t *testing.T) {
	seen := map[string]int{}
	for fuse := range 4 {
		for keep := range 40 {
			k := disk(t, 1000)
			h, e := heap.Open(k, 30)
			is(t, "Open", e, api.OK)
			is(t, "Put", h.Put(1, put("x", 1), put("y", 1)), api.OK)
			is(t, "Compact", h.Compact(), api.OK)
			k.Fuse(fuse)
			e = h.Put(2, put("x", 2), del("y"), put("z", 3))
			b := open(t, cut(k, keep))
			got := fmt.Sprint(e, b.Rows(), b.Mark())
			seen[got]++
			if e == api.OK && got != "0 [{x 2} {z 3}] 2" {
				t.Fatal(fuse, keep, got)
			}
		}
	}
	for _, want := range []string{"0 [{x 2} {z 3}] 2", "8 [{x 2} {z 3}] 2", "8 [{x 1} {y 1}] 1"} {
		if seen[want] == 0 {
			t.Error("never seen:", want)
		}
		delete(seen, want)
	}
	if len(seen) > 0 {
		t.Error("seen", seen)
	}
}
