package undo_test

import (
	"fmt"
	"math/rand"
	"slices"
	"testing"

	"byroad/api"
	"byroad/cells"
	"byroad/undo"
)

// rows is so many rows, k000 and on, each of which holds 1.
func rows(n int) []api.Row {
	var l []api.Row
	for i := range n {
		l = append(l, api.Row{Key: fmt.Sprintf("k%03d", i), N: 1})
	}
	return l
}

// replay is what a log comes to, which it must.
func replay(t *testing.T, base []api.Row, l ...undo.Rec) (*cells.Cells, []undo.Rec) {
	t.Helper()
	c, more, e := undo.Replay(base, l...)
	if e != api.OK || c == nil {
		t.Fatal(l, e)
	}
	return c, more
}

// holds fails the test, if cells do not hold just these rows.
func holds(t *testing.T, c *cells.Cells, want ...api.Row) {
	t.Helper()
	if !c.Same(cells.New(want...)) {
		t.Error(c.Rows(), "not", want)
	}
}

// P11.3: the chapter's example.
func TestReplayExample(t *testing.T) {
	l := []undo.Rec{plain(undo.Begin, 1), change(1, "x", 5, 7), plain(undo.Begin, 2), change(2, "y", nil, 1), plain(undo.Commit, 2)}
	c, more := replay(t, []api.Row{{Key: "x", N: 5}}, l...)
	holds(t, c, api.Row{Key: "x", N: 5}, api.Row{Key: "y", N: 1})
	if !slices.Equal(more, []undo.Rec{back(1, "x", 7, 5), plain(undo.Abort, 1)}) {
		t.Error(more)
	}
}

// P11.3: changes and backs are done in order, by what they say alone; what is open of those that ended stays.
func TestReplayDoes(t *testing.T) {
	base := []api.Row{{Key: "x", N: 5}, {Key: "y", N: 6}, {Key: "x", N: 7}, {Key: tooLong, N: 8}}
	c, more := replay(t, base)
	holds(t, c, api.Row{Key: "x", N: 7}, api.Row{Key: "y", N: 6})
	if len(more) != 0 {
		t.Error(more)
	}
	c, more = replay(t, base, change(1, "x", 1, 2), change(1, "x", 1, nil), change(2, "x", 1, 4), change(1, "y", 6, nil), back(2, "z", nil, 3), plain(undo.Commit, 1), plain(undo.Abort, 2))
	holds(t, c, api.Row{Key: "x", N: 4}, api.Row{Key: "z", N: 3})
	if len(more) != 0 {
		t.Error(more)
	}
	c, more = replay(t, nil, change(3, "a", nil, 1), plain(undo.Commit, 3))
	holds(t, c, api.Row{Key: "a", N: 1})
	if len(more) != 0 {
		t.Error(more)
	}
}

// P11.3: what the lost ones have open is taken back together, the last one first; then each is aborted, rising.
func TestReplayTakesBack(t *testing.T) {
	l := []undo.Rec{
		plain(undo.Begin, 9),
		change(9, "a", 1, 2),
		plain(undo.Begin, 3),
		change(3, "b", nil, 3),
		change(9, "c", 4, nil),
		back(3, "b", 3, nil),
		change(5, "d", 6, 7),
		change(3, "e", nil, 8),
		plain(undo.Commit, 5),
		change(9, "a", 2, 3),
		plain(undo.Begin, 4),
	}
	c, more := replay(t, []api.Row{{Key: "a", N: 1}, {Key: "c", N: 4}, {Key: "d", N: 6}}, l...)
	holds(t, c, api.Row{Key: "a", N: 1}, api.Row{Key: "c", N: 4}, api.Row{Key: "d", N: 7})
	want := []undo.Rec{back(9, "a", 3, 2), back(3, "e", 8, nil), back(9, "c", nil, 4), back(9, "a", 2, 1), plain(undo.Abort, 3), plain(undo.Abort, 4), plain(undo.Abort, 9)}
	if !slices.Equal(more, want) {
		t.Error(more)
	}
}

// P11.3: where two lost ones changed one key, the order of all of them together is to be seen.
func TestReplayTogether(t *testing.T) {
	c, more := replay(t, []api.Row{{Key: "x", N: 1}}, change(2, "x", 1, 2), change(1, "x", 2, 3))
	holds(t, c, api.Row{Key: "x", N: 1})
	if !slices.Equal(more[:2], []undo.Rec{back(1, "x", 3, 2), back(2, "x", 2, 1)}) {
		t.Error(more)
	}
	c, _ = replay(t, []api.Row{{Key: "x", N: 1}}, change(1, "x", 1, 2), change(2, "x", 2, 3))
	holds(t, c, api.Row{Key: "x", N: 1})
}

// refused fails the test, if a log comes to anything but an error.
func refused(t *testing.T, want api.Errno, base []api.Row, l ...undo.Rec) {
	t.Helper()
	if c, more, e := undo.Replay(base, l...); c != nil || len(more) != 0 || e != want {
		t.Error(c.Rows(), more, e, "not", want)
	}
}

// P11.3
func TestReplayArg(t *testing.T) {
	for _, r := range []undo.Rec{{}, plain(undo.Begin, 0), plain(6, 1), change(1, tooLong, 1, 2), {Kind: undo.Commit, Txn: 1, Was: 3}, {Kind: undo.Change, Txn: 1, Change: cells.Change{Key: "x", N: 1}}} {
		refused(t, api.ErrArg, nil, r)
		refused(t, api.ErrArg, rows(1), change(1, "x", nil, 1), plain(undo.Commit, 1), r)
		refused(t, api.ErrArg, rows(api.MaxRows), change(1, "x", nil, 1), r) // ErrFull comes behind it
	}
}

// P11.3: at no time may there be more than MaxRows rows, whatever comes of it at last.
func TestReplayFull(t *testing.T) {
	full := rows(api.MaxRows)
	refused(t, api.ErrFull, full, change(1, "x", nil, 1), plain(undo.Commit, 1))
	refused(t, api.ErrFull, full, change(1, "x", nil, 1))
	refused(t, api.ErrFull, full, change(1, "x", nil, 1), change(1, "x", 1, nil), plain(undo.Commit, 1))
	refused(t, api.ErrFull, full, back(1, "x", nil, 1), plain(undo.Abort, 1))
	c, _ := replay(t, full, change(1, "k000", 1, nil), change(1, "x", nil, 1), plain(undo.Commit, 1))
	if c.Len() != api.MaxRows {
		t.Error(c.Len())
	}
	// The lost one's key holds something again, while another one's does too.
	refused(t, api.ErrFull, full, change(1, "k000", 1, nil), change(2, "x", nil, 1), plain(undo.Commit, 2))
	c, _ = replay(t, full, change(1, "k000", 1, nil), change(2, "x", nil, 1))
	holds(t, c, full...)
	c, _ = replay(t, append(full, api.Row{Key: "zz", N: 1}))
	holds(t, c, full...)
}

// strict is a log of transactions that lock what they change, and what it comes to by the rows of those that won.
func strict(r *rand.Rand, base []api.Row) ([]undo.Rec, map[string]int64) {
	now, won := map[string]int64{}, map[string]int64{}
	for _, row := range base {
		now[row.Key], won[row.Key] = row.N, row.N
	}
	has := map[string]int{}        // who has locked a key
	open := map[int][]undo.Rec{}   // the changes of each one that goes on
	ending := map[int][]undo.Rec{} // the backs that are to come of one that is given up
	var l []undo.Rec
	set := func(m map[string]int64, x cells.Change) {
		if delete(m, x.Key); x.There {
			m[x.Key] = x.N
		}
	}
	leave := func(txn int) {
		delete(open, txn)
		delete(ending, txn)
		for key, who := range has {
			if who == txn {
				has[key] = 0
			}
		}
	}
	next := 1
	for range r.Intn(60) {
		txn := 1 + r.Intn(next)
		mine, there := open[txn]
		switch n := r.Intn(8); {
		case txn == next:
			l, next, open[txn] = append(l, plain(undo.Begin, txn)), next+1, nil
		case !there:
		case len(ending[txn]) > 0:
			x := ending[txn][0]
			l = append(l, x)
			set(now, x.Change)
			if ending[txn] = ending[txn][1:]; len(ending[txn]) == 0 && r.Intn(2) == 0 {
				leave(txn) // the abort that may follow says no more than that
			} else if len(ending[txn]) == 0 {
				l = append(l, plain(undo.Abort, txn))
				leave(txn)
			}
		case n == 0:
			l = append(l, plain(undo.Commit, txn))
			for _, x := range mine {
				set(won, x.Change)
			}
			leave(txn)
		case n == 1 && len(mine) > 0:
			ending[txn] = undo.Backs(txn, mine...)
		default:
			key := string(rune('a' + r.Intn(5)))
			if has[key] != 0 && has[key] != txn {
				break
			}
			has[key] = txn
			x := undo.Rec{Kind: undo.Change, Txn: txn, Change: cells.Change{Key: key}}
			x.Was, x.Had = now[key], false
			if _, had := now[key]; had {
				x.Had = true
			}
			if r.Intn(3) > 0 {
				x.N, x.There = int64(r.Intn(100)), true
			}
			l, open[txn] = append(l, x), append(mine, x)
			set(now, x.Change)
		}
	}
	return l, won
}

// P11.4: over any base a strict log comes to what those that won did, and nothing else. P11.5: also with the records that are told behind it, or a beginning of these.
func TestStrict(t *testing.T) {
	r := rand.New(rand.NewSource(114))
	told := 0
	for round := range 3000 {
		base := []api.Row{{Key: "a", N: 1}, {Key: "b", N: 2}, {Key: "f", N: 3}}[:r.Intn(4)]
		l, won := strict(r, base)
		c, more := replay(t, base, l...)
		var want []api.Row
		for key, n := range won {
			want = append(want, api.Row{Key: key, N: n})
		}
		if !c.Same(cells.New(want...)) {
			t.Fatalf("round %d, over %v: %v\n%v not %v", round, base, l, c.Rows(), want)
		}
		told += len(more)
		again(t, base, l, c, more)
	}
	if told < 1000 {
		t.Error("hardly anything was taken back", told)
	}
}

// again fails the test, if a log with what was told behind it, or a beginning of that, comes to anything else, or more is told than what is left of it.
func again(t *testing.T, base []api.Row, l []undo.Rec, c *cells.Cells, more []undo.Rec) {
	t.Helper()
	for i := range len(more) + 1 {
		d, rest := replay(t, base, slices.Concat(l, more[:i])...)
		if !d.Same(c) || !slices.Equal(rest, more[i:]) {
			t.Fatalf("over %v: %v, and %v: %v not %v; %v not %v", base, l, more[:i], d.Rows(), c.Rows(), rest, more[i:])
		}
	}
}

// P11.5: of any log, strict or not.
func TestAgain(t *testing.T) {
	r := rand.New(rand.NewSource(115))
	for range 3000 {
		var l []undo.Rec
		for range r.Intn(20) {
			x := undo.Rec{Kind: undo.Begin + r.Intn(5), Txn: 1 + r.Intn(4)}
			if x.Kind == undo.Change || x.Kind == undo.Back {
				x.Key = string(rune('a' + r.Intn(3)))
				x.N, x.There = anyHeld(r)
				x.Was, x.Had = anyHeld(r)
			}
			l = append(l, x)
		}
		base := []api.Row{{Key: "a", N: 1}, {Key: "b", N: 2}}[:r.Intn(3)]
		kept, keptBase := slices.Clone(l), slices.Clone(base)
		c, more := replay(t, base, l...)
		again(t, base, l, c, more)
		if !slices.Equal(l, kept) || !slices.Equal(base, keptBase) {
			t.Fatal("what was handed in is changed", kept, l)
		}
	}
}

// Rule 4, rule 5: nothing that is told or was handed in is shared.
func TestShared(t *testing.T) {
	base := []api.Row{{Key: "x", N: 5}}
	l := []undo.Rec{change(1, "x", 5, 7), change(2, "y", nil, 1), plain(undo.Commit, 2)}
	c, more := replay(t, base, l...)
	backs, won, lost := undo.Backs(1, l...), undo.Won(l...), undo.Lost(l...)
	clear(base)
	clear(l)
	holds(t, c, api.Row{Key: "x", N: 5}, api.Row{Key: "y", N: 1})
	if len(more) != 2 || more[0] != back(1, "x", 7, 5) || !slices.Equal(backs, more[:1]) || won[0] != 2 || lost[0] != 1 {
		t.Error(more, backs, won, lost)
	}
}

// P1: a long log comes to an end soon.
func TestReplayLong(t *testing.T) {
	var l []undo.Rec
	for i := range 200000 {
		l = append(l, change(1+i%1000, "x", i, i+1))
	}
	c, more := replay(t, []api.Row{{Key: "x", N: 0}}, l...)
	holds(t, c, api.Row{Key: "x", N: 0})
	if len(more) != len(l)+1000 {
		t.Error(len(more))
	}
}
