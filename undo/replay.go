package undo

import (
	"slices"

	"byroad/api"
	"byroad/cells"
	"byroad/fault"
)

// Won is the transactions that were committed, in the order of their first commits.
func Won(l ...Rec) []int {
	met := map[int]struct{}{}
	var won []int
	for _, r := range l {
		if _, again := met[r.Txn]; r.Kind == Commit && !again {
			met[r.Txn] = struct{}{}
			won = append(won, r.Txn)
		}
	}
	return won
}

// Lost is the transactions that have records, but no end, rising.
func Lost(l ...Rec) []int {
	ends := map[int]int{} // how many each one has
	for _, r := range l {
		n := ends[r.Txn]
		if r.Kind == Commit || r.Kind == Abort {
			n++
		}
		ends[r.Txn] = n
	}
	var lost []int
	for txn, n := range ends {
		if n == 0 {
			lost = append(lost, txn)
		}
	}
	slices.Sort(lost)
	return lost
}

// Backs is what takes back a transaction's open changes, the last one first.
func Backs(txn int, l ...Rec) []Rec {
	return backs(l, txn)
}

// Replay is what a log comes to over base, and what is to be written behind it, so that nobody is lost in it any more.
func Replay(base []api.Row, l ...Rec) (*cells.Cells, []Rec, api.Errno) {
	c, more, err := replay(base, l)
	return c, more, fault.Code(err)
}

// replay does all changes once more, and takes back those of the lost ones.
func replay(base []api.Row, l []Rec) (*cells.Cells, []Rec, error) {
	if err := check(l); err != nil {
		return nil, nil, err
	}
	lost := Lost(l...)
	more := backs(l, lost...)
	c := cells.New(base...)
	if e := c.Apply(append(moves(l), moves(more)...)...); e != api.OK {
		return nil, nil, fault.In("rows", fault.New(e))
	}
	for _, txn := range lost {
		more = append(more, Rec{Kind: Abort, Txn: txn})
	}
	return c, more, nil
}

// check tells which record may not be.
func check(l []Rec) error {
	for i, r := range l {
		if !May(r) {
			return fault.At(i, fault.New(api.ErrArg))
		}
	}
	return nil
}

// backs is what takes back the open changes of transactions, of all of them together the last one first.
func backs(l []Rec, txns ...int) []Rec {
	of := open(l)
	var places []int
	for _, txn := range txns {
		places = append(places, of[txn]...)
	}
	slices.Sort(places)
	var all []Rec
	for _, i := range slices.Backward(places) {
		all = append(all, l[i].back())
	}
	return all
}

// open is the places of each transaction's open changes, rising.
func open(l []Rec) map[int][]int {
	of := map[int][]int{}
	for i, r := range l {
		places := of[r.Txn]
		switch {
		case r.Kind == Change:
			of[r.Txn] = append(places, i)
		case r.Kind == Back && len(places) > 0:
			of[r.Txn] = places[:len(places)-1]
		}
	}
	return of
}

// moves is the changes that records tell.
func moves(l []Rec) []cells.Change {
	var all []cells.Change
	for _, r := range l {
		if r.moves() {
			all = append(all, r.Change)
		}
	}
	return all
}
