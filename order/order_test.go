package order_test

import (
	"fmt"
	"math"
	"math/rand"
	"slices"
	"testing"

	"byroad/lock"
	"byroad/order"
	"byroad/wait"
)

// user is a global transaction that may use these sites.
func user(g int, sites ...int) order.User { return order.User{G: g, Sites: sites} }

// pairs is edges: from, to, from, to ..
func pairs(l ...int) []lock.Edge {
	var all []lock.Edge
	for i := 0; i < len(l); i += 2 {
		all = append(all, lock.Edge{From: l[i], To: l[i+1]})
	}
	return all
}

// first fails the test, if First does not answer that.
func first(t *testing.T, site int, l []order.User, want int, there bool) {
	t.Helper()
	if g, ok := order.First(site, l...); g != want || ok != there {
		t.Error("First", site, l, g, ok, "not", want, there)
	}
}

// may fails the test, if May does not answer that.
func may(t *testing.T, g, site int, l []order.User, want bool) {
	t.Helper()
	if order.May(g, site, l...) != want {
		t.Error("May", g, site, l, "not", want)
	}
}

// waits fails the test, if Waits does not answer just these edges.
func waits(t *testing.T, l []order.User, want ...int) {
	t.Helper()
	if got := order.Waits(l...); !slices.Equal(got, pairs(want...)) {
		t.Error("Waits", l, got, "not", pairs(want...))
	}
}

// The chapter's example.
func TestExample(t *testing.T) {
	l := []order.User{user(1, 0, 1), user(2, 1)}
	may(t, 2, 1, l, false)
	may(t, 1, 1, l, true)
	waits(t, l, 2, 1)
	none(t, ticket(1, 0, 5), ticket(2, 0, 7), ticket(2, 1, 3), ticket(1, 1, 4))
}

// P27.1: First and May.
func TestFirst(t *testing.T) {
	for _, site := range []int{0, 1, -1, math.MaxInt} {
		first(t, site, nil, 0, false)
		may(t, math.MaxInt, site, nil, true)
		first(t, site, []order.User{user(3), user(-3)}, 0, false)
		may(t, math.MaxInt, site, []order.User{user(3), user(-3)}, true)
	}
	l := []order.User{user(9, 1, 2), user(4, 0, 1, 0), user(7, 1), user(4, 5), user(-2, -7), user(0, 3)}
	for _, x := range []struct {
		site, want int
		there      bool
	}{{0, 4, true}, {1, 4, true}, {2, 9, true}, {3, 0, true}, {4, 0, false}, {5, 4, true}, {-7, -2, true}, {7, 0, false}} {
		first(t, x.site, l, x.want, x.there)
		for g := -5; g < 15; g++ {
			may(t, g, x.site, l, !x.there || g <= x.want)
		}
	}
	l = []order.User{user(math.MaxInt, 1), user(math.MinInt, math.MinInt, math.MaxInt)}
	first(t, 1, l, math.MaxInt, true)
	first(t, math.MinInt, l, math.MinInt, true)
	first(t, math.MaxInt, l, math.MinInt, true)
	may(t, math.MinInt, math.MaxInt, l, true)
	may(t, math.MinInt+1, math.MaxInt, l, false)
}

// P27.1: Waits.
func TestWaits(t *testing.T) {
	waits(t, nil)
	waits(t, []order.User{user(1)})
	waits(t, []order.User{user(1, 0, 0), user(2), user(3, 1)})
	waits(t, []order.User{user(2, 0, 1, 2, 0), user(1, 2, 1, 0, 1)}, 2, 1)
	waits(t, []order.User{user(9, 1, 2), user(7, 1), user(4, 0, 1), user(5, 2, 3)}, 7, 4, 9, 4, 9, 5, 9, 7)
	// One number for several users: it is one global transaction, which does not wait for itself.
	waits(t, []order.User{user(3, 0), user(3, 0), user(3, 1)})
	waits(t, []order.User{user(3, 0), user(5, 0, 1), user(3, 1), user(5, 1)}, 5, 3)
	waits(t, []order.User{user(3, 0), user(2, 1), user(3, 1), user(1, 0)}, 3, 1, 3, 2)
	waits(t, []order.User{user(0, -1), user(-1, -1), user(math.MinInt, -1), user(math.MaxInt, -1)},
		-1, math.MinInt, 0, math.MinInt, 0, -1, math.MaxInt, math.MinInt, math.MaxInt, -1, math.MaxInt, 0)
}

// some is so many users of a few numbers and sites.
func some(r *rand.Rand, n int) []order.User {
	var l []order.User
	for range n {
		u := user(r.Intn(9) - 3)
		for range r.Intn(4) {
			u.Sites = append(u.Sites, r.Intn(5)-1)
		}
		l = append(l, u)
	}
	return l
}

// model is Waits by the chapter's words.
func model(l []order.User) []lock.Edge {
	var all []lock.Edge
	for from := -3; from < 6; from++ {
		for to := -3; to < from; to++ {
			if slices.ContainsFunc(l, func(a order.User) bool {
				return a.G == from && slices.ContainsFunc(l, func(b order.User) bool {
					return b.G == to && slices.ContainsFunc(a.Sites, func(s int) bool { return slices.Contains(b.Sites, s) })
				})
			}) {
				all = append(all, lock.Edge{From: from, To: to})
			}
		}
	}
	return all
}

// P27.1, P27.3: any users; and no list that is handed in is changed.
func TestAnyUsers(t *testing.T) {
	r := rand.New(rand.NewSource(27))
	edges := 0
	for n := range 3000 {
		l := some(r, n%12)
		was := fmt.Sprint(l)
		got := order.Waits(l...)
		if !slices.Equal(got, model(l)) {
			t.Fatal("Waits", l, got, "not", model(l))
		}
		edges += len(got)
		if c := wait.Circles(got...); len(c) > 0 {
			t.Fatal("a circle", l, c)
		}
		for site := -2; site < 5; site++ {
			var have []int
			for _, u := range l {
				if slices.Contains(u.Sites, site) {
					have = append(have, u.G)
				}
			}
			slices.Sort(have)
			have = append(have, math.MaxInt)
			want := have[0]
			if want == math.MaxInt {
				want = 0
			}
			first(t, site, l, want, len(have) > 1)
			for g := -4; g < 7; g++ {
				may(t, g, site, l, g <= have[0])
			}
		}
		leastMay(t, l)
		if fmt.Sprint(l) != was || t.Failed() {
			t.Fatal(n, "changed", l, was)
		}
	}
	if edges < 3000 {
		t.Error("too few edges", edges)
	}
}

// leastMay fails the test, if the least user of all may not use one of its sites (P27.3).
func leastMay(t *testing.T, l []order.User) {
	t.Helper()
	least := math.MaxInt
	for _, u := range l {
		least = min(least, u.G)
	}
	for _, u := range l {
		for _, site := range u.Sites {
			if u.G == least {
				may(t, least, site, l, true)
			}
		}
	}
}

// What a caller writes into an answer is seen nowhere.
func TestShared(t *testing.T) {
	l := []order.User{user(1, 0, 2), user(3, 2), user(2, 0)}
	k := []order.Ticket{ticket(2, 0, 1), ticket(1, 0, 2)}
	for range 2 {
		waits(t, l, 2, 1, 3, 1)
		clear(order.Waits(l...))
		certified(t, k, 2, 1)
		o, _ := order.Certify(k...)
		clear(o[:cap(o)])
	}
}

// Many users end in time, whether they share all sites or none.
func TestManyUsers(t *testing.T) {
	var apart, dense []order.User
	for i := range 100000 {
		apart = append(apart, user(-i, i, i+1))
	}
	if w := order.Waits(apart...); len(w) != len(apart)-1 || w[0] != (lock.Edge{From: -99998, To: -99999}) {
		t.Error("apart", len(w))
	}
	for i := range 300 {
		u := user(i)
		for site := range 300 {
			u.Sites = append(u.Sites, site)
		}
		dense = append(dense, u)
	}
	if w := order.Waits(dense...); len(w) != 300*299/2 || w[1] != (lock.Edge{From: 2, To: 0}) {
		t.Error("dense", len(w))
	}
}
