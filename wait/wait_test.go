package wait_test

import (
	"fmt"
	"math"
	"math/rand"
	"slices"
	"testing"

	"byroad/lock"
	"byroad/wait"
)

// pairs is edges: from, to, from, to ..
func pairs(l ...int) []lock.Edge {
	var all []lock.Edge
	for i := 0; i < len(l); i += 2 {
		all = append(all, lock.Edge{From: l[i], To: l[i+1]})
	}
	return all
}

// circles fails the test, if not just these stand in a circle; Victim and Order must tell likewise.
func circles(t *testing.T, l []lock.Edge, want ...int) {
	t.Helper()
	if got := wait.Circles(l...); !slices.Equal(got, want) {
		t.Errorf("Circles(%v): %v, not %v", l, got, want)
	}
	v, ok := wait.Victim(l...)
	if ok != (len(want) > 0) || !ok && v != 0 || ok && v != want[len(want)-1] {
		t.Errorf("Victim(%v): %v %v of %v", l, v, ok, want)
	}
	if o, ok := wait.Order(l...); ok != (len(want) == 0) || !ok && len(o) > 0 {
		t.Errorf("Order(%v): %v %v", l, o, ok)
	}
}

// reach fails the test, if one does not wait for just these by and by.
func reach(t *testing.T, l []lock.Edge, from int, want ...int) {
	t.Helper()
	if got := wait.Reach(from, l...); !slices.Equal(got, want) {
		t.Errorf("Reach(%d, %v): %v, not %v", from, l, got, want)
	}
}

// order fails the test, if this is not the order.
func order(t *testing.T, l []lock.Edge, want ...int) {
	t.Helper()
	if got, ok := wait.Order(l...); !slices.Equal(got, want) || !ok {
		t.Errorf("Order(%v): %v %v, not %v", l, got, ok, want)
	}
}

// The chapter's example.
func TestExample(t *testing.T) {
	circles(t, pairs(1, 2, 2, 3, 3, 1, 4, 1), 1, 2, 3)
	reach(t, pairs(1, 2, 2, 3, 3, 1, 4, 1), 4, 1, 2, 3)
	circles(t, pairs(1, 2, 2, 3, 4, 1))
	order(t, pairs(1, 2, 2, 3, 4, 1), 3, 2, 1, 4)
}

// P10.1: Circles, Victim
func TestCircles(t *testing.T) {
	circles(t, nil)
	circles(t, pairs(1, 2))
	circles(t, pairs(5, 5), 5)
	circles(t, pairs(0, 0), 0)
	circles(t, pairs(5, 5, 6, 5, 5, 4), 5)
	circles(t, pairs(2, 1, 1, 2), 1, 2)
	// Who leads to a circle, is led to by one, or stands between two, stands in none.
	circles(t, pairs(9, 1, 1, 2, 2, 1, 2, 5, 5, 6, 6, 8, 8, 6, 8, 0), 1, 2, 6, 8)
	circles(t, pairs(1, 2, 1, 3, 2, 4, 3, 4))
	// Two circles that share one.
	circles(t, pairs(3, 7, 7, 3, 7, 1, 1, 4, 4, 7, 8, 9), 1, 3, 4, 7)
	circles(t, pairs(-1, -2, -2, -1), -2, -1)
	circles(t, pairs(math.MinInt, math.MaxInt, math.MaxInt, math.MinInt, 0, 1), math.MinInt, math.MaxInt)
	circles(t, pairs(math.MinInt, math.MinInt), math.MinInt)
}

// P10.1: Reach
func TestReach(t *testing.T) {
	reach(t, nil, 1)
	reach(t, pairs(1, 2), 2)
	reach(t, pairs(1, 2), 3)
	reach(t, pairs(1, 2), 1, 2)
	reach(t, pairs(1, 2, 2, 1), 1, 1, 2)
	reach(t, pairs(1, 1), 1, 1)
	reach(t, pairs(4, 9, 9, 2, 9, 8, 8, 2, 2, -3, 7, 4, 5, 6), 4, -3, 2, 8, 9)
	reach(t, pairs(1, 2, 2, 3, 3, 2), 1, 2, 3)
	reach(t, pairs(1, 2, 2, 3, 3, 2), 3, 2, 3)
	reach(t, pairs(math.MaxInt, math.MinInt, math.MinInt, 0), math.MaxInt, math.MinInt, 0)
}

// P10.2
func TestOrder(t *testing.T) {
	order(t, nil)
	order(t, pairs(1, 2), 2, 1)
	order(t, pairs(2, 1), 1, 2)
	order(t, pairs(1, 9, 2, 8), 8, 2, 9, 1)
	// What is free only now may be less than what was free all the time.
	order(t, pairs(1, 5, 2, 1, 7, 6, 3, 6), 5, 1, 2, 6, 3, 7)
	order(t, pairs(1, 2, 1, 3, 2, 4, 3, 4, 0, 1), 4, 2, 3, 1, 0)
	order(t, pairs(0, math.MaxInt, -1, math.MinInt, math.MinInt, 0), math.MaxInt, 0, math.MinInt, -1)
}

// P10.5: neither the order of edges nor how often one is named matters; and no edge that is handed in is changed.
func TestAnyOrder(t *testing.T) {
	l := pairs(1, 2, 1, 2, 3, 1, 3, 1, 3, 2, 1, 2)
	kept := slices.Clone(l)
	circles(t, l)
	order(t, l, 2, 1, 3)
	reach(t, l, 3, 1, 2)
	circles(t, append(l, pairs(2, 3, 2, 3)...), 1, 2, 3)
	if !slices.Equal(l, kept) {
		t.Error("the edges are changed", l)
	}
	r := rand.New(rand.NewSource(105))
	for range 300 {
		l := some(r, r.Intn(9)+1, r.Intn(16))
		c, o, v := fmt.Sprint(wait.Circles(l...)), fmt.Sprint(wait.Order(l...)), fmt.Sprint(wait.Victim(l...))
		for range 4 {
			if len(l) > 0 {
				l = append(l, l[r.Intn(len(l))])
			}
			r.Shuffle(len(l), func(i, j int) { l[i], l[j] = l[j], l[i] })
			if c != fmt.Sprint(wait.Circles(l...)) || o != fmt.Sprint(wait.Order(l...)) || v != fmt.Sprint(wait.Victim(l...)) {
				t.Fatal(l, c, o, v)
			}
		}
	}
}

// some is so many edges among so many.
func some(r *rand.Rand, whos, edges int) []lock.Edge {
	var l []lock.Edge
	for range edges {
		l = append(l, lock.Edge{From: r.Intn(whos) - 2, To: r.Intn(whos) - 2})
	}
	return l
}

// model is who waits for whom by and by, by the chapter's words.
func model(l []lock.Edge) (whos []int, byAndBy map[lock.Edge]int) {
	byAndBy = map[lock.Edge]int{}
	for _, e := range l {
		byAndBy[e] = 1
		whos = append(whos, e.From, e.To)
	}
	slices.Sort(whos)
	whos = slices.Compact(whos)
	for _, over := range whos {
		for _, a := range whos {
			for _, b := range whos {
				if byAndBy[lock.Edge{From: a, To: over}] > 0 && byAndBy[lock.Edge{From: over, To: b}] > 0 {
					byAndBy[lock.Edge{From: a, To: b}] = 1
				}
			}
		}
	}
	return whos, byAndBy
}

// inOrder is the order by the chapter's words, if nobody stands in a circle.
func inOrder(whos []int, byAndBy map[lock.Edge]int) []int {
	var l []int
	left := slices.Clone(whos)
	for len(left) > 0 {
		i := slices.IndexFunc(left, func(who int) bool {
			return !slices.ContainsFunc(left, func(other int) bool { return byAndBy[lock.Edge{From: who, To: other}] > 0 })
		})
		l = append(l, left[i])
		left = slices.Delete(left, i, i+1)
	}
	return l
}

// P10.1, P10.2, P10.4, by the chapter's words over any edges.
func TestModel(t *testing.T) {
	r := rand.New(rand.NewSource(101))
	free := 0
	for n := range 4000 {
		l := some(r, r.Intn(12)+1, r.Intn(n%30+1))
		whos, byAndBy := model(l)
		var in []int
		for _, who := range whos {
			var to []int
			for _, other := range whos {
				if byAndBy[lock.Edge{From: who, To: other}] > 0 {
					to = append(to, other)
				}
			}
			reach(t, l, who, to...)
			if slices.Contains(to, who) {
				in = append(in, who)
			}
		}
		circles(t, l, in...)
		if len(in) == 0 {
			free++
			order(t, l, inOrder(whos, byAndBy)...)
		}
		if t.Failed() {
			t.Fatal(n)
		}
	}
	if free < 500 || free > 3500 {
		t.Error("hardly any with, or without, a circle", free)
	}
}

// P10.3: without its victims' edges nobody stands in a circle; each victim stood in one.
func TestOneLess(t *testing.T) {
	r := rand.New(rand.NewSource(103))
	for range 500 {
		l := some(r, r.Intn(20)+1, r.Intn(60))
		whos, _ := model(l)
		gone := 0
		for v, ok := wait.Victim(l...); ok; v, ok = wait.Victim(l...) {
			reaches := wait.Reach(v, l...)
			if gone++; gone > len(whos) || !slices.Contains(reaches, v) {
				t.Fatal(v, l)
			}
			l = slices.DeleteFunc(l, func(e lock.Edge) bool { return e.From == v || e.To == v })
		}
		circles(t, l)
	}
}

// What a caller writes into an answer is seen nowhere.
func TestShared(t *testing.T) {
	l := pairs(1, 2, 2, 3)
	for range 2 {
		order(t, l, 3, 2, 1)
		o, _ := wait.Order(l...)
		clear(o)
		clear(wait.Reach(1, l...))
		clear(wait.Circles(pairs(1, 1)...))
		reach(t, l, 1, 2, 3)
	}
}

// Long chains and thick bundles of edges end in time.
func TestMany(t *testing.T) {
	const many = 200000
	var chain []lock.Edge
	for i := range many {
		chain = append(chain, lock.Edge{From: i, To: i + 1})
	}
	o, ok := wait.Order(chain...)
	if !ok || len(o) != many+1 || o[0] != many || o[many] != 0 {
		t.Error("Order", len(o), ok)
	}
	if x := wait.Reach(0, chain...); len(x) != many || x[0] != 1 {
		t.Error("Reach", len(x))
	}
	if x := wait.Circles(chain...); len(x) != 0 {
		t.Error("Circles", len(x))
	}
	round := append(chain, lock.Edge{From: many, To: 10})
	if x := wait.Circles(round...); len(x) != many-9 || x[0] != 10 {
		t.Error("a round", len(x))
	}
	var star []lock.Edge
	for i := range many {
		star = append(star, lock.Edge{From: -i, To: 1}, lock.Edge{From: 2, To: -i})
	}
	if o, ok := wait.Order(star...); !ok || len(o) != many+2 || o[0] != 1 || o[1] != 1-many || o[many+1] != 2 {
		t.Error("a star", len(o), ok)
	}
	if x := wait.Circles(append(star, lock.Edge{From: 1, To: 2})...); len(x) != many+2 {
		t.Error("a star's circles", len(x))
	}
}

// Locks and their circles: without the victims all come to an end.
func TestLocks(t *testing.T) {
	l := lock.New()
	l.Ask(1, "a", true)
	l.Ask(2, "b", true)
	l.Ask(3, "c", false)
	l.Ask(1, "b", false)
	l.Ask(3, "a", false)
	circles(t, l.Edges())
	order(t, l.Edges(), 2, 1, 3)
	l.Ask(2, "c", true)
	circles(t, l.Edges(), 1, 2, 3)
	v, _ := wait.Victim(l.Edges()...)
	if got := l.Release(v); v != 3 || !slices.Equal(got, []int{2}) {
		t.Error(v, got)
	}
	circles(t, l.Edges())
	order(t, l.Edges(), 2, 1)
}
