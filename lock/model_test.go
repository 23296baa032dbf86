package lock_test

import (
	"fmt"
	"maps"
	"math/rand"
	"slices"
	"testing"

	"byroad/api"
	"byroad/lock"
)

// lot is that one holds a key, or waits for it.
type lot struct {
	who  int
	key  string
	mine bool
}

// model is a table by the chapter's words alone: all that is held, and all that is waited for, as it came.
type model struct{ held, waiting []lot }

// own finds what one has of a key.
func own(l []lot, who int, key string) (lot, bool) {
	i := slices.IndexFunc(l, func(x lot) bool { return x.who == who && x.key == key })
	if i < 0 {
		return lot{}, false
	}
	return l[i], true
}

// together tells whether two locks of unlike transactions go together.
func together(a, b lot) bool { return !a.mine && !b.mine }

// raise tells whether one that waits holds the key.
func (m *model) raise(x lot) bool {
	_, ok := own(m.held, x.who, x.key)
	return ok
}

// row is those that wait for a key: the raises, then the others.
func (m *model) row(key string) []lot {
	var first, others []lot
	for _, x := range m.waiting {
		if x.key == key && m.raise(x) {
			first = append(first, x)
		} else if x.key == key {
			others = append(others, x)
		}
	}
	return append(first, others...)
}

// against is what others hold of a lock's key that does not go together with it.
func (m *model) against(x lot) []lot {
	var l []lot
	for _, h := range m.held {
		if h.key == x.key && h.who != x.who && !together(h, x) {
			l = append(l, h)
		}
	}
	return l
}

// hold lets one hold a key as it wants it.
func (m *model) hold(x lot) {
	m.held = slices.DeleteFunc(m.held, func(h lot) bool { return h.who == x.who && h.key == x.key })
	m.held = append(m.held, x)
}

func (m *model) waits(who int) (lot, bool) {
	i := slices.IndexFunc(m.waiting, func(x lot) bool { return x.who == who })
	if i < 0 {
		return lot{}, false
	}
	return m.waiting[i], true
}

func (m *model) ask(x lot) api.Errno {
	if w, ok := m.waits(x.who); ok && w != x {
		return api.ErrState
	} else if ok {
		return api.ErrBusy
	}
	h, has := own(m.held, x.who, x.key)
	if has && (h.mine || !x.mine) {
		return api.OK
	}
	if len(m.against(x)) == 0 && (has || len(m.row(x.key)) == 0) {
		m.hold(x)
		return api.OK
	}
	m.waiting = append(m.waiting, x)
	return api.ErrBusy
}

func (m *model) release(who int) []int {
	of := map[string]int{}
	for _, x := range append(slices.Clone(m.held), m.waiting...) {
		if x.who == who {
			of[x.key]++
		}
	}
	its := func(x lot) bool { return x.who == who }
	m.held, m.waiting = slices.DeleteFunc(m.held, its), slices.DeleteFunc(m.waiting, its)
	var served []int
	for _, key := range slices.Sorted(maps.Keys(of)) {
		for row := m.row(key); len(row) > 0 && len(m.against(row[0])) == 0; row = m.row(key) {
			m.waiting = slices.DeleteFunc(m.waiting, func(x lot) bool { return x == row[0] })
			m.hold(row[0])
			served = append(served, row[0].who)
		}
	}
	slices.Sort(served)
	return served
}

func (m *model) edges() []lock.Edge {
	all := map[lock.Edge]int{}
	for _, x := range m.waiting {
		for _, h := range m.against(x) {
			all[lock.Edge{From: x.who, To: h.who}]++
		}
		for _, ahead := range m.row(x.key) {
			if ahead == x {
				break
			}
			if !together(ahead, x) || m.raise(ahead) {
				all[lock.Edge{From: x.who, To: ahead.who}]++
			}
		}
	}
	return slices.SortedFunc(maps.Keys(all), func(a, b lock.Edge) int {
		if a.From != b.From {
			return a.From - b.From
		}
		return a.To - b.To
	})
}

func (m *model) holds(who int) []lock.Hold {
	all := map[string]lock.Hold{}
	for _, h := range m.held {
		if h.who == who {
			all[h.key] = lock.Hold{Key: h.key, Mine: h.mine}
		}
	}
	var l []lock.Hold
	for _, key := range slices.Sorted(maps.Keys(all)) {
		l = append(l, all[key])
	}
	return l
}

// same fails the test, if a table does not tell what the model does.
func same(t *testing.T, what string, l *lock.Table, m *model, most int) {
	t.Helper()
	if got, want := l.Edges(), m.edges(); !slices.Equal(got, want) {
		t.Fatal(what, "Edges", got, want)
	}
	var all []int
	for who := range most + 1 {
		held, want := l.Holds(who), m.holds(who)
		if !slices.Equal(held, want) {
			t.Fatal(what, "Holds", who, held, want)
		}
		w, waits := m.waits(who)
		if h, ok := l.Waits(who); ok != waits || h != (lock.Hold{Key: w.key, Mine: w.mine}) {
			t.Fatal(what, "Waits", who, h, ok, w)
		}
		if len(held) > 0 || waits {
			all = append(all, who)
		}
	}
	if !slices.Equal(l.Who(), all) {
		t.Fatal(what, "Who", l.Who(), all)
	}
}

// sound fails the test, if P9.4 or P9.6 does not hold.
func sound(t *testing.T, what string, l *lock.Table) {
	t.Helper()
	held := map[string][]bool{}
	from := map[int]int{}
	for _, e := range l.Edges() {
		from[e.From]++
	}
	for _, who := range l.Who() {
		for _, h := range l.Holds(who) {
			held[h.Key] = append(held[h.Key], h.Mine)
		}
		if _, ok := l.Waits(who); ok != (from[who] > 0) {
			t.Fatal(what, who, "waits", ok, "edges", from[who])
		}
	}
	for key, mine := range held {
		if len(mine) > 1 && slices.Contains(mine, true) {
			t.Fatal(what, key, "is held by several", mine)
		}
	}
}

// circle tells whether anybody waits for itself by and by: whether some are left, when those that wait for none are taken away again and again.
func circle(l []lock.Edge) bool {
	for {
		from := map[int]int{}
		for _, e := range l {
			from[e.From]++
		}
		left := slices.DeleteFunc(slices.Clone(l), func(e lock.Edge) bool { return from[e.To] == 0 })
		if len(left) == len(l) {
			return len(l) > 0
		}
		l = left
	}
}

// ends fails the test, if some are forgotten (P9.5) when all that do not wait release, one after the other, the greatest or the least first.
func ends(t *testing.T, what string, l *lock.Table, greatest bool) {
	t.Helper()
	if circle(l.Edges()) {
		return
	}
	for len(l.Who()) > 0 {
		goes := slices.DeleteFunc(l.Who(), func(who int) bool { _, ok := l.Waits(who); return ok })
		if len(goes) == 0 {
			t.Fatal(what, "all wait", l.Edges())
		}
		if greatest {
			slices.Reverse(goes)
		}
		l.Release(goes[0])
	}
	if len(l.Edges()) > 0 {
		t.Fatal(what, "edges are left", l.Edges())
	}
}

// spoil does anything with a table.
func spoil(l *lock.Table, r *rand.Rand, whos int) {
	for range 2 * whos {
		who := r.Intn(whos) + 1
		l.Release(who)
		l.Ask(who, "k0", r.Intn(2) > 0)
	}
}

// P9.1 to P9.6, by what the chapter says of whatever is asked.
func TestModel(t *testing.T) {
	for _, x := range []struct{ whos, keys int }{{2, 1}, {3, 1}, {4, 2}, {7, 2}, {12, 4}, {40, 12}} {
		for seed := range 8 {
			r := rand.New(rand.NewSource(int64(1000*x.whos + 100*x.keys + seed)))
			l, m := lock.New(), &model{}
			for n := range 400 {
				what := fmt.Sprint(x, " seed ", seed, " step ", n)
				who := r.Intn(x.whos) + 1
				if r.Intn(10) < 2 {
					if got, want := l.Release(who), m.release(who); !slices.Equal(got, want) {
						t.Fatal(what, "Release", who, got, want)
					}
				} else {
					ask := lot{who, fmt.Sprint("k", r.Intn(x.keys)), r.Intn(8) < seed}
					if w, ok := m.waits(who); ok && r.Intn(2) > 0 {
						ask = w
					}
					if got, want := l.Ask(ask.who, ask.key, ask.mine), m.ask(ask); got != want {
						t.Fatal(what, "Ask", ask, got, want)
					}
				}
				same(t, what, l, m, x.whos)
				sound(t, what, l)
				if r.Intn(10) == 0 {
					ends(t, what, l.Copy(), n%2 == 0)
					spoil(l.Copy(), r, x.whos)
					same(t, what, l, m, x.whos)
					if n%3 == 0 {
						other := l
						l = l.Copy()
						spoil(other, r, x.whos)
						same(t, what, l, m, x.whos)
					}
				}
			}
		}
	}
}

// Many locks are asked for and given back in time.
func TestMany(t *testing.T) {
	const many = 20000
	l := lock.New()
	for who := range many {
		l.Ask(who+1, "a", who == 0)
		l.Ask(who+1, fmt.Sprint(who%50), false)
	}
	if got := l.Release(1); len(got) != many-1 || got[0] != 2 || got[many-2] != many {
		t.Error(len(got))
	}
	if len(l.Who()) != many-1 || len(l.Edges()) != 0 {
		t.Error(len(l.Who()), len(l.Edges()))
	}
}
