package undo_test

import (
	"slices"
	"testing"

	"byroad/cells"
	"byroad/undo"
)

const (
	long    = "abcdefghijklmnop"
	tooLong = long + "q"
	lastTxn = 1 << 30
)

// plain is a record without a key.
func plain(kind, txn int) undo.Rec {
	return undo.Rec{Kind: kind, Txn: txn}
}

// held is what a key holds; there is nothing, if it is nil.
func held(n any) (int64, bool) {
	if n == nil {
		return 0, false
	}
	return int64(n.(int)), true
}

// rec is a change or a back of a key, from what it held to what it holds.
func rec(kind, txn int, key string, was, now any) undo.Rec {
	r := undo.Rec{Kind: kind, Txn: txn, Change: cells.Change{Key: key}}
	r.Was, r.Had = held(was)
	r.N, r.There = held(now)
	return r
}

// change is a change of a key.
func change(txn int, key string, was, now any) undo.Rec {
	return rec(undo.Change, txn, key, was, now)
}

// back is a back of a key.
func back(txn int, key string, was, now any) undo.Rec {
	return rec(undo.Back, txn, key, was, now)
}

// P11.1
func TestMay(t *testing.T) {
	for kind := -1; kind <= 7; kind++ {
		of := kind >= undo.Begin && kind <= undo.Back
		for _, txn := range []int{-1, 0, 1, 7, lastTxn, lastTxn + 1, 1 << 32, -1 << 63, 1<<63 - 1} {
			if got, want := undo.May(plain(kind, txn)), of && txn >= 1 && txn <= lastTxn; got != want {
				t.Error("kind", kind, "of", txn, got)
			}
		}
	}
	if undo.May(undo.Rec{}) {
		t.Error("a record of nothing")
	}
}

// P11.1
func TestMayHold(t *testing.T) {
	for _, x := range []struct {
		r    undo.Rec
		keys bool // may it be, if it is a change or a back?
		none bool // and if it is none of these?
	}{
		{undo.Rec{}, true, true},
		{undo.Rec{Change: cells.Change{Key: "x"}}, true, false},
		{undo.Rec{Change: cells.Change{Key: "A key \xff"}}, true, false},
		{undo.Rec{Change: cells.Change{Key: long}}, true, false},
		{undo.Rec{Change: cells.Change{Key: tooLong}}, false, false},
		{undo.Rec{Change: cells.Change{There: true}}, true, false},
		{undo.Rec{Change: cells.Change{N: 5, There: true}}, true, false},
		{undo.Rec{Change: cells.Change{N: 5}}, false, false},
		{undo.Rec{Change: cells.Change{N: -5}, Had: true}, false, false},
		{undo.Rec{Had: true}, true, false},
		{undo.Rec{Had: true, Was: -3}, true, false},
		{undo.Rec{Was: -3}, false, false},
		{undo.Rec{Was: 3, Change: cells.Change{There: true}}, false, false},
		{change(0, long, 1, 2), true, false},
	} {
		for kind := undo.Begin; kind <= undo.Back; kind++ {
			x.r.Kind, x.r.Txn = kind, 1
			want := x.none
			if kind == undo.Change || kind == undo.Back {
				want = x.keys
			}
			if got := undo.May(x.r); got != want {
				t.Error(x.r, got)
			}
		}
	}
}

// P11.2
func TestWon(t *testing.T) {
	for _, x := range []struct {
		l    []undo.Rec
		want []int
	}{
		{nil, nil},
		{[]undo.Rec{plain(undo.Begin, 1), change(1, "x", 1, 2), back(1, "x", 2, 1), plain(undo.Abort, 1)}, nil},
		{[]undo.Rec{plain(undo.Commit, 3)}, []int{3}},
		{[]undo.Rec{plain(undo.Commit, 3), plain(undo.Begin, 2), plain(undo.Commit, 1), plain(undo.Commit, 3), plain(undo.Commit, 2)}, []int{3, 1, 2}},
		{[]undo.Rec{plain(undo.Abort, 3), plain(undo.Commit, 3), plain(undo.Abort, 3)}, []int{3}},
	} {
		if got := undo.Won(x.l...); !slices.Equal(got, x.want) {
			t.Error(x.l, got)
		}
	}
}

// P11.2
func TestLost(t *testing.T) {
	for _, x := range []struct {
		l    []undo.Rec
		want []int
	}{
		{nil, nil},
		{[]undo.Rec{plain(undo.Begin, 9), plain(undo.Begin, 2), change(5, "x", 1, 2), back(4, "x", 2, 1)}, []int{2, 4, 5, 9}},
		{[]undo.Rec{plain(undo.Begin, 1), plain(undo.Begin, 2), plain(undo.Begin, 3), plain(undo.Commit, 1), plain(undo.Abort, 3)}, []int{2}},
		{[]undo.Rec{plain(undo.Commit, 1), plain(undo.Begin, 1), plain(undo.Abort, 2), change(2, "x", 1, 2)}, nil},
		{[]undo.Rec{plain(undo.Commit, 1), plain(undo.Abort, 1)}, nil},
	} {
		if got := undo.Lost(x.l...); !slices.Equal(got, x.want) {
			t.Error(x.l, got)
		}
	}
}

// P11.2: each back takes back the last open change of its transaction, whichever its key.
func TestBacks(t *testing.T) {
	l := []undo.Rec{
		back(1, "x", 9, 8), // without a change it takes back nothing
		change(1, "x", 1, 2),
		change(2, "y", nil, 5),
		change(1, "z", 7, nil),
		change(1, "x", 2, 3),
		back(1, "x", 3, 2),
		plain(undo.Commit, 1),
		change(1, "a", nil, 4),
		back(1, "another key", nil, nil),
		change(1, "b", -1, 0),
	}
	for _, x := range []struct {
		txn  int
		want []undo.Rec
	}{
		{1, []undo.Rec{back(1, "b", 0, -1), back(1, "z", nil, 7), back(1, "x", 2, 1)}},
		{2, []undo.Rec{back(2, "y", 5, nil)}},
		{3, nil}, {0, nil}, {-1, nil},
	} {
		if got := undo.Backs(x.txn, l...); !slices.Equal(got, x.want) {
			t.Error(x.txn, got)
		}
	}
	if got := undo.Backs(1, l[:6]...); !slices.Equal(got, []undo.Rec{back(1, "z", nil, 7), back(1, "x", 2, 1)}) {
		t.Error("behind a back", got)
	}
	if got := undo.Backs(1, append(undo.Backs(1, l[1:4]...), l[1:4]...)...); len(got) != 2 {
		t.Error("backs ahead of their changes", got)
	}
	if got := undo.Backs(1, append(slices.Clone(l), undo.Backs(1, l...)...)...); len(got) != 0 {
		t.Error("all is taken back", got)
	}
	if got := undo.Backs(1); len(got) != 0 {
		t.Error("nothing", got)
	}
}
