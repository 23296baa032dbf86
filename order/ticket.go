package order

import (
	"cmp"
	"iter"
	"slices"

	"byroad/lock"
	"byroad/wait"
)

// Ticket is one that a global transaction took at a site.
type Ticket struct {
	G    int
	Site int
	N    int64
}

// Certify is the order of global transactions that all tickets bear out, the least first where several may be; there is none, if two tickets of one site have one number, or no order is borne out.
func Certify(l ...Ticket) ([]int, bool) {
	// All wait for one that is none of them: so those are there, too, who wait for nobody else.
	start := other(l)
	var edges []lock.Edge
	for _, t := range l {
		edges = append(edges, lock.Edge{From: t.G, To: start})
	}
	for one, next := range neighbours(l) {
		if one.N == next.N {
			return nil, false
		}
		if one.G != next.G {
			edges = append(edges, lock.Edge{From: next.G, To: one.G})
		}
	}
	all, ok := wait.Order(edges...)
	return slices.DeleteFunc(all, func(g int) bool { return g == start }), ok
}

// Rises tells whether at each site tickets with greater numbers are those of greater global transactions, or of the same one, and no two have one number.
func Rises(l ...Ticket) bool {
	for one, next := range neighbours(l) {
		if one.N == next.N || one.G > next.G {
			return false
		}
	}
	return true
}

// neighbours is each ticket with the next one of its site, by rising numbers.
func neighbours(l []Ticket) iter.Seq2[Ticket, Ticket] {
	l = slices.Clone(l)
	slices.SortFunc(l, func(a, b Ticket) int {
		return cmp.Or(cmp.Compare(a.Site, b.Site), cmp.Compare(a.N, b.N))
	})
	return func(yield func(one, next Ticket) bool) {
		for i := 1; i < len(l); i++ {
			if l[i-1].Site == l[i].Site && !yield(l[i-1], l[i]) {
				return
			}
		}
	}
}

// other is the least number from 0 on that no ticket's global transaction has.
func other(l []Ticket) int {
	there := map[int]struct{}{}
	for _, t := range l {
		there[t.G] = struct{}{}
	}
	n := 0
	for _, taken := there[n]; taken; _, taken = there[n] {
		n++
	}
	return n
}
