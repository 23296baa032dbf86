package lock

import (
	"maps"
	"slices"
)

// claim is a lock for which one waits.
type claim struct {
	who  int
	mine bool
}

// lane is all locks of one key.
type lane struct {
	held map[int]struct{} // those that hold it
	mine bool             // the one that holds it has it for its own; without a holder it says nothing
	row  []claim          // those that wait for it, raises ahead
}

// take gives the key to one that does not wait, if it may have it at once; else that one waits.
func (l *lane) take(c claim) bool {
	has := l.holds(c.who)
	switch {
	case has && (l.mine || !c.mine):
		return true
	case l.lets(c) && (has || len(l.row) == 0):
		l.give(c)
		return true
	}
	l.row = slices.Insert(l.row, l.place(has), c)
	return false
}

// serve gives the key to the first ones that wait, as long as they may have it, and is their numbers.
func (l *lane) serve() []int {
	var served []int
	for len(l.row) > 0 && l.lets(l.row[0]) {
		c := l.row[0]
		l.row = l.row[1:]
		l.give(c)
		served = append(served, c.who)
	}
	return served
}

// strike takes away all that one has of the key.
func (l *lane) strike(who int) {
	delete(l.held, who)
	l.row = slices.DeleteFunc(l.row, func(c claim) bool { return c.who == who })
}

// edges is an edge from each one that waits to each for which it does; some may be there twice.
func (l *lane) edges() []Edge {
	var all []Edge
	for i, c := range l.row {
		for who := range l.held {
			if who != c.who && !together(l.mine, c.mine) {
				all = append(all, Edge{c.who, who})
			}
		}
		for _, x := range l.row[:i] {
			if !together(x.mine, c.mine) { // so it is with each raise: it is for one's own
				all = append(all, Edge{c.who, x.who})
			}
		}
	}
	return all
}

// copy is another lane as this one.
func (l *lane) copy() *lane {
	return &lane{maps.Clone(l.held), l.mine, slices.Clone(l.row)}
}

// holds tells whether one holds the key.
func (l *lane) holds(who int) bool {
	_, ok := l.held[who]
	return ok
}

// lets tells whether a lock goes together with all that others hold.
func (l *lane) lets(c claim) bool {
	others := len(l.held)
	if l.holds(c.who) {
		others--
	}
	return others == 0 || together(l.mine, c.mine)
}

// give lets one hold the key; it must be let.
func (l *lane) give(c claim) {
	l.held[c.who] = struct{}{}
	l.mine = c.mine
}

// place is where in the row a new claim stands.
func (l *lane) place(raise bool) int {
	if raise {
		behind := func(c claim) bool { return !l.holds(c.who) }
		if i := slices.IndexFunc(l.row, behind); i >= 0 {
			return i
		}
	}
	return len(l.row)
}

// together tells whether locks of two transactions go together.
func together(mine, others bool) bool {
	return !mine && !others
}
