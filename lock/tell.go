package lock

import (
	"cmp"
	"maps"
	"slices"
)

// Holds is what one holds, by rising keys.
func (t *Table) Holds(who int) []Hold {
	var all []Hold
	for _, key := range t.keys(who) {
		if l := t.lanes[key]; l.holds(who) {
			all = append(all, Hold{key, l.mine})
		}
	}
	return all
}

// Waits is what one waits for, if it waits.
func (t *Table) Waits(who int) (Hold, bool) {
	if t == nil {
		return Hold{}, false
	}
	h, ok := t.waits[who]
	return h, ok
}

// Edges is who waits for whom, each once, rising.
func (t *Table) Edges() []Edge {
	if t == nil {
		return nil
	}
	var all []Edge
	for _, l := range t.lanes {
		all = append(all, l.edges()...)
	}
	slices.SortFunc(all, func(a, b Edge) int {
		return cmp.Or(cmp.Compare(a.From, b.From), cmp.Compare(a.To, b.To))
	})
	return slices.Compact(all)
}

// Who is all that hold something or wait for it, rising.
func (t *Table) Who() []int {
	if t == nil {
		return nil
	}
	all := slices.Collect(maps.Keys(t.waits))
	for _, l := range t.lanes {
		all = slices.AppendSeq(all, maps.Keys(l.held))
	}
	slices.Sort(all)
	return slices.Compact(all)
}

// keys is the keys that one holds or waits for, rising.
func (t *Table) keys(who int) []string {
	if t == nil {
		return nil
	}
	want, waits := t.waits[who]
	var all []string
	for key, l := range t.lanes {
		if l.holds(who) || waits && key == want.Key {
			all = append(all, key)
		}
	}
	slices.Sort(all)
	return all
}
