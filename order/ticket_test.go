package order_test

import (
	"fmt"
	"math"
	"math/rand"
	"slices"
	"testing"

	"byroad/order"
)

// ticket is one that a global transaction took at a site.
func ticket(g, site int, n int64) order.Ticket { return order.Ticket{G: g, Site: site, N: n} }

// certified fails the test, if Certify does not answer that order.
func certified(t *testing.T, l []order.Ticket, want ...int) {
	t.Helper()
	if got, ok := order.Certify(l...); !ok || !slices.Equal(got, want) {
		t.Error("Certify", l, got, ok, "not", want)
	}
}

// none fails the test, if Certify answers an order.
func none(t *testing.T, l ...order.Ticket) {
	t.Helper()
	if got, ok := order.Certify(l...); ok || len(got) > 0 {
		t.Error("Certify", l, got, ok)
	}
}

// rises fails the test, if Rises does not answer that.
func rises(t *testing.T, want bool, l ...order.Ticket) {
	t.Helper()
	if order.Rises(l...) != want {
		t.Error("Rises", l, "not", want)
	}
}

// P27.2: Certify.
func TestCertify(t *testing.T) {
	certified(t, nil)
	certified(t, []order.Ticket{ticket(7, 0, 1)}, 7)
	certified(t, []order.Ticket{ticket(0, 0, 0)}, 0)
	certified(t, []order.Ticket{ticket(0, 1, 4), ticket(1, 0, 4), ticket(2, 2, 4)}, 0, 1, 2)
	certified(t, []order.Ticket{ticket(2, 0, 5), ticket(1, 0, 7), ticket(3, 1, 1)}, 2, 1, 3)
	// Whatever order tickets are handed in by, their numbers count, at each site for themselves.
	certified(t, []order.Ticket{ticket(1, 0, 7), ticket(3, 0, 2), ticket(2, 0, 5)}, 3, 2, 1)
	certified(t, []order.Ticket{ticket(1, 0, -7), ticket(3, 0, 0), ticket(2, 0, math.MinInt64), ticket(4, 0, math.MaxInt64)}, 2, 1, 3, 4)
	certified(t, []order.Ticket{ticket(1, 0, 9), ticket(2, 1, 1)}, 1, 2)
	certified(t, []order.Ticket{ticket(1, -5, 2), ticket(2, -5, 1), ticket(2, 99, 2), ticket(3, 99, 1)}, 3, 2, 1)
	// Several tickets of one, side by side, are as one.
	certified(t, []order.Ticket{ticket(5, 0, 1), ticket(5, 0, 2), ticket(4, 0, 3), ticket(4, 0, 4), ticket(5, 1, 8)}, 5, 4)
	// The least one of those that may be next is next, also one that is free only now, or that stands alone.
	certified(t, []order.Ticket{ticket(5, 0, 1), ticket(1, 0, 2), ticket(6, 1, 1), ticket(7, 2, 1), ticket(0, 2, 2)}, 5, 1, 6, 7, 0)
	certified(t, []order.Ticket{ticket(math.MaxInt, 0, 1), ticket(math.MinInt, 0, 2), ticket(0, 1, 1), ticket(-1, 2, 1)}, -1, 0, math.MaxInt, math.MinInt)
	none(t, ticket(1, 0, 5), ticket(2, 0, 5))
	none(t, ticket(1, 0, 5), ticket(1, 0, 5))
	none(t, ticket(1, 0, 5), ticket(3, 1, 6), ticket(4, 1, 5), ticket(1, 0, 6), ticket(9, 1, 5))
	none(t, ticket(1, 0, 1), ticket(2, 0, 2), ticket(1, 0, 3)) // 1 would be ahead of 2, and behind it
	none(t, ticket(1, 0, 1), ticket(2, 0, 2), ticket(2, 1, 1), ticket(1, 1, 2))
	none(t, ticket(1, 0, 1), ticket(2, 0, 2), ticket(2, 1, 1), ticket(3, 1, 2), ticket(3, 2, 1), ticket(1, 2, 2), ticket(4, 0, 0))
}

// P27.2: Rises.
func TestRises(t *testing.T) {
	rises(t, true)
	rises(t, true, ticket(3, 0, 1))
	rises(t, true, ticket(3, 0, 1), ticket(3, 0, 2), ticket(9, 0, 3))
	rises(t, true, ticket(9, 0, 3), ticket(3, 0, 1), ticket(3, 0, 2))
	rises(t, true, ticket(9, 0, 3), ticket(3, 1, 4), ticket(1, 2, 5), ticket(4, 1, 5))
	rises(t, true, ticket(math.MinInt, -1, math.MinInt64), ticket(math.MaxInt, -1, math.MaxInt64), ticket(0, -1, 0))
	rises(t, false, ticket(3, 0, 1), ticket(2, 0, 2))
	rises(t, false, ticket(2, 0, 2), ticket(3, 0, 1))
	rises(t, false, ticket(1, 0, 1), ticket(5, 1, 1), ticket(3, 0, 2), ticket(2, 0, 9), ticket(6, 1, 2))
	rises(t, false, ticket(1, 0, 5), ticket(2, 0, 5))
	rises(t, false, ticket(2, 0, 5), ticket(2, 0, 5))
	rises(t, false, ticket(1, 0, 1), ticket(2, 0, 2), ticket(1, 0, 3))
	rises(t, false, ticket(math.MaxInt, 7, math.MinInt64), ticket(math.MinInt, 7, math.MaxInt64))
}

// bornOut tells whether tickets bear an order out, by the chapter's words.
func bornOut(l []order.Ticket, in []int) bool {
	for _, a := range l {
		for _, b := range l {
			if a.Site == b.Site && a.N < b.N && slices.Index(in, a.G) > slices.Index(in, b.G) {
				return false
			}
		}
	}
	return true
}

// twice tells whether two tickets of one site have one number.
func twice(l []order.Ticket) bool {
	for i, a := range l {
		for _, b := range l[:i] {
			if a.Site == b.Site && a.N == b.N {
				return true
			}
		}
	}
	return false
}

// gs is all global transactions of tickets, rising.
func gs(l []order.Ticket) []int {
	var all []int
	for _, k := range l {
		all = append(all, k.G)
	}
	slices.Sort(all)
	return slices.Compact(all)
}

// best is the first order in which each next one is the least that may be, that tickets bear out: each of those that are left, the least first, is put behind what is there.
func best(l []order.Ticket, ahead, left []int) ([]int, bool) {
	if len(left) == 0 {
		return ahead, bornOut(l, ahead)
	}
	for i, g := range left {
		rest := slices.Delete(slices.Clone(left), i, i+1)
		if o, ok := best(l, append(slices.Clone(ahead), g), rest); ok {
			return o, true
		}
	}
	return nil, false
}

// someTickets is so many tickets of a few global transactions at a few sites; mostly no two of one site have one number.
func someTickets(r *rand.Rand, n int) []order.Ticket {
	var l []order.Ticket
	for i := range n {
		k := ticket(r.Intn(6)-1, r.Intn(3), int64(i-4))
		if r.Intn(20) == 0 {
			k.N = int64(r.Intn(n) - 4)
		}
		if r.Intn(3) > 0 {
			k.G = i/2 - 1 // so that there is an order often enough
		}
		l = append(l, k)
	}
	r.Shuffle(len(l), func(i, k int) { l[i], l[k] = l[k], l[i] })
	return l
}

// P27.2, P27.4: any tickets.
func TestAnyTickets(t *testing.T) {
	r := rand.New(rand.NewSource(272))
	orders, rising, refused := 0, 0, 0
	for n := range 6000 {
		l := someTickets(r, n%11)
		was := fmt.Sprint(l)
		want, ok := best(l, nil, gs(l))
		if twice(l) || !ok {
			none(t, l...)
			refused++
		} else {
			certified(t, l, want...)
			orders++
		}
		rise := !twice(l)
		for _, a := range l {
			for _, b := range l {
				rise = rise && (a.Site != b.Site || a.N >= b.N || a.G <= b.G)
			}
		}
		rises(t, rise, l...)
		if rise {
			certified(t, l, gs(l)...)
			rising++
		}
		if fmt.Sprint(l) != was || t.Failed() {
			t.Fatal(n, "changed", l, was)
		}
	}
	if orders < 1000 || rising < 500 || orders-rising < 500 || refused < 1000 {
		t.Error("too few", orders, rising, refused)
	}
}

// P27.5: users come to their sites only when they may, in any order; now and then they give a site up.
func TestComing(t *testing.T) {
	r := rand.New(rand.NewSource(275))
	turns := 0
	for range 500 {
		var users []order.User
		var taken []order.Ticket
		next := [3]int64{}
		accepted := 0
		for steps := 0; accepted < 8 || len(users) > 0; steps++ {
			if accepted < 8 && r.Intn(3) == 0 {
				accepted++
				users = append(users, user(accepted, r.Perm(3)[:r.Intn(4)]...))
				continue
			}
			i := r.Intn(len(users) + 1)
			if i == len(users) {
				continue
			}
			u := &users[i]
			if len(u.Sites) == 0 {
				users = slices.Delete(users, i, i+1)
				continue
			}
			site := u.Sites[0]
			if order.May(u.G, site, users...) {
				next[site]++
				taken = append(taken, ticket(u.G, site, next[site]))
			} else {
				turns++
			}
			if order.May(u.G, site, users...) && r.Intn(3) > 0 || r.Intn(20) == 0 {
				u.Sites = u.Sites[1:]
			}
			if steps > 100000 {
				t.Fatal("it does not end", users)
			}
		}
		rises(t, true, taken...)
		certified(t, taken, gs(taken)...)
	}
	if turns < 500 {
		t.Error("hardly anybody had to wait", turns)
	}
}

// Many tickets end in time.
func TestManyTickets(t *testing.T) {
	const many = 200000
	var l []order.Ticket
	for i := range many {
		l = append(l, ticket(i, 0, int64(-i)), ticket(i, i+1, 7))
	}
	o, ok := order.Certify(l...)
	if !ok || len(o) != many || o[0] != many-1 || o[many-1] != 0 {
		t.Error("Certify", len(o), ok)
	}
	none(t, append(l, ticket(many-1, 0, 1))...)
	rises(t, false, l...)
}
