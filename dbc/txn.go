package dbc

import (
	"maps"
	"slices"

	"byroad/cells"
)

// txn is a transaction that is open.
type txn struct {
	since int                     // the history's now when it began
	read  map[string]struct{}     // the keys that it has read
	side  map[string]cells.Change // what it has changed, by key
}

// start is a transaction that has done nothing yet.
func start(since int) *txn {
	return &txn{since: since, read: map[string]struct{}{}, side: map[string]cells.Change{}}
}

// reads is the keys that a transaction has read, rising.
func (x *txn) reads() []string {
	return slices.Sorted(maps.Keys(x.read))
}

// writes is the keys that a transaction has changed, rising.
func (x *txn) writes() []string {
	return slices.Sorted(maps.Keys(x.side))
}

// changes is what a transaction has changed, by rising keys.
func (x *txn) changes() []cells.Change {
	var l []cells.Change
	for _, key := range x.writes() {
		l = append(l, x.side[key])
	}
	return l
}
