package wait

import (
	"maps"
	"slices"

	"byroad/lock"
)

// graph is, of each one that is there, those for whom it waits, each once, rising.
type graph map[int][]int

// graphOf is the graph of edges.
func graphOf(l ...lock.Edge) graph {
	g := graph{}
	for _, e := range l {
		g[e.From] = append(g[e.From], e.To)
		if _, there := g[e.To]; !there {
			g[e.To] = nil // it may wait for none
		}
	}
	for who, to := range g {
		slices.Sort(to)
		g[who] = slices.Compact(to)
	}
	return g
}

// turn is the edges the other way round.
func turn(l ...lock.Edge) []lock.Edge {
	var all []lock.Edge
	for _, e := range l {
		all = append(all, lock.Edge{From: e.To, To: e.From})
	}
	return all
}

// all is all that are there, rising.
func (g graph) all() []int {
	return slices.Sorted(maps.Keys(g))
}

// walk goes along a graph's edges, and meets each one once at most.
type walk struct {
	g    graph
	gone map[int]int // of each that was met: how many of its edges were gone along
}

// walkOver is a walk that has met nobody yet.
func walkOver(g graph) walk {
	return walk{g, map[int]int{}}
}

// from goes on from these, one behind the other, and is all that are met now, in the order in which they are left: each behind all to which it leads, but for circles. The path is a list, as a chain of edges may be longer than calls can be nested.
func (w walk) from(who ...int) []int {
	var left []int
	for _, first := range who {
		path := w.meet(nil, first)
		for len(path) > 0 {
			at := path[len(path)-1]
			to := w.g[at]
			n := w.gone[at]
			if n == len(to) {
				left = append(left, at)
				path = path[:len(path)-1]
				continue
			}
			w.gone[at] = n + 1
			path = w.meet(path, to[n])
		}
	}
	return left
}

// meet puts one at a path's end, if it was not met before.
func (w walk) meet(path []int, who int) []int {
	if _, met := w.gone[who]; met {
		return path
	}
	w.gone[who] = 0
	return append(path, who)
}
