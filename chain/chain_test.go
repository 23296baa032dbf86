package chain_test

import (
	"math"
	"math/rand"
	"slices"
	"testing"

	"byroad/api"
	"byroad/chain"
)

const lastTime = 1 << 30

// reads fails the test, if a time does not read just that number.
func reads(t *testing.T, c *chain.Chain, at int, want int64) {
	t.Helper()
	if n, there, e := c.Read(at); n != want || !there || e != api.OK {
		t.Fatal("at", at, "it reads", n, there, e)
	}
}

// nothing fails the test, if a time does not read that there is nothing.
func nothing(t *testing.T, c *chain.Chain, at int) {
	t.Helper()
	if n, there, e := c.Read(at); n != 0 || there || e != api.OK {
		t.Fatal("at", at, "it reads", n, there, e)
	}
}

// fails fails the test, if a time does not read just that error.
func fails(t *testing.T, c *chain.Chain, at int, want api.Errno) {
	t.Helper()
	if n, there, e := c.Read(at); n != 0 || there || e != want {
		t.Fatal("at", at, "it reads", n, there, e, "not", want)
	}
}

// writes fails the test, if a write does not answer just that.
func writes(t *testing.T, c *chain.Chain, at int, n int64, there bool, want api.Errno) {
	t.Helper()
	if e := c.Write(at, n, there); e != want {
		t.Fatal("at", at, n, there, "is answered", e, "not", want)
	}
}

// has fails the test, if a chain has not just these versions.
func has(t *testing.T, c *chain.Chain, want ...chain.Version) {
	t.Helper()
	if got := c.Versions(); !slices.Equal(got, want) {
		t.Fatal(got, "not", want)
	}
}

// yes fails the test, if something is not true.
func yes(t *testing.T, what string, is bool) {
	t.Helper()
	if !is {
		t.Fatal(what, "is false")
	}
}

// P13
func TestNil(t *testing.T) {
	var c *chain.Chain
	fails(t, c, 1, api.ErrNil)
	fails(t, c, 0, api.ErrNil)
	writes(t, c, 1, 2, true, api.ErrNil)
	n, there := c.Latest()
	if c.Commit(1) || c.Abort(1) || c.Prune(5) != 0 || n != 0 || there || len(c.Versions()) != 0 || c.Copy() != nil {
		t.Error(n, there, c.Versions())
	}
}

// P1: a chain that New has not made has no versions.
func TestZero(t *testing.T) {
	var c chain.Chain
	fails(t, &c, 1, api.ErrLate)
	fails(t, &c, 0, api.ErrArg)
	writes(t, &c, 1, 2, true, api.ErrLate)
	n, there := c.Latest()
	if c.Commit(1) || c.Abort(1) || c.Prune(5) != 0 || n != 0 || there || len(c.Versions()) != 0 || len(c.Copy().Versions()) != 0 {
		t.Error(n, there, c.Versions())
	}
}

// The chapter's example.
func TestExample(t *testing.T) {
	c := chain.New(5, true)
	writes(t, c, 3, 7, true, api.OK)
	reads(t, c, 2, 5)
	fails(t, c, 4, api.ErrBusy)
	yes(t, "Commit", c.Commit(3))
	reads(t, c, 4, 7)
	writes(t, c, 1, 9, true, api.ErrLate)
}

// P13.1: a new chain.
func TestNew(t *testing.T) {
	c := chain.New(-5, true)
	has(t, c, chain.Version{N: -5, There: true})
	reads(t, c, 1, -5)
	has(t, c, chain.Version{N: -5, There: true, Read: 1})
	c = chain.New(5, false)
	has(t, c, chain.Version{})
	nothing(t, c, lastTime)
	has(t, c, chain.Version{Read: lastTime})
}

// P13.1, P13.2: times that may not be.
func TestTimes(t *testing.T) {
	c := chain.New(5, true)
	for _, at := range []int{0, -1, math.MinInt, lastTime + 1, math.MaxInt} {
		fails(t, c, at, api.ErrArg)
		writes(t, c, at, 1, true, api.ErrArg)
		if c.Commit(at) || c.Abort(at) {
			t.Error(at)
		}
	}
	has(t, c, chain.Version{N: 5, There: true})
	writes(t, c, lastTime, 1, true, api.OK)
	yes(t, "Commit", c.Commit(lastTime))
	reads(t, c, lastTime, 1)
	reads(t, c, 1, 5)
	writes(t, c, 1, 2, true, api.OK)
	has(t, c, chain.Version{N: 5, There: true, Read: 1}, chain.Version{At: 1, N: 2, There: true, Open: true}, chain.Version{At: lastTime, N: 1, There: true})
}

// P13.1: the greatest time that read a version stays; its own time counts for nothing.
func TestRead(t *testing.T) {
	c := chain.New(5, true)
	writes(t, c, 10, 6, true, api.OK)
	reads(t, c, 10, 6)
	for _, at := range []int{11, 20, lastTime} {
		fails(t, c, at, api.ErrBusy)
	}
	reads(t, c, 7, 5)
	reads(t, c, 4, 5)
	reads(t, c, 7, 5)
	has(t, c, chain.Version{N: 5, There: true, Read: 7}, chain.Version{At: 10, N: 6, There: true, Open: true})
	yes(t, "Commit", c.Commit(10))
	reads(t, c, 10, 6)
	reads(t, c, 9, 5)
	has(t, c, chain.Version{N: 5, There: true, Read: 9}, chain.Version{At: 10, N: 6, There: true})
	reads(t, c, 11, 6)
	reads(t, c, 30, 6)
	reads(t, c, 29, 6)
	has(t, c, chain.Version{N: 5, There: true, Read: 9}, chain.Version{At: 10, N: 6, There: true, Read: 30})
}

// P13.2: who comes too late, and who does not.
func TestWrite(t *testing.T) {
	c := chain.New(5, true)
	reads(t, c, 7, 5)
	writes(t, c, 6, 1, true, api.ErrLate)
	writes(t, c, 6, 0, false, api.ErrLate)
	writes(t, c, 7, 1, true, api.OK) // the very time that has read
	writes(t, c, 7, 2, true, api.OK)
	reads(t, c, 7, 2)
	writes(t, c, 7, 3, false, api.OK)
	nothing(t, c, 7)
	writes(t, c, 9, 4, true, api.OK) // behind an open version
	writes(t, c, 8, 9, false, api.OK)
	writes(t, c, 8, 6, true, api.OK)
	writes(t, c, 6, 1, true, api.ErrLate)
	open := []chain.Version{{N: 5, There: true, Read: 7}, {At: 7, Open: true}, {At: 8, N: 6, There: true, Open: true}, {At: 9, N: 4, There: true, Open: true}}
	has(t, c, open...)
	yes(t, "Commit", c.Commit(8))
	writes(t, c, 8, 7, true, api.ErrLate) // it is committed
	open[2].Open = false
	has(t, c, open...)
	yes(t, "Commit", c.Commit(7))
	yes(t, "Commit", c.Commit(9))
	reads(t, c, 20, 4)
	writes(t, c, 9, 7, true, api.ErrLate)
	writes(t, c, 10, 7, true, api.ErrLate)
	writes(t, c, 19, 7, true, api.ErrLate)
	writes(t, c, 20, 7, true, api.OK)
	has(t, c, chain.Version{N: 5, There: true, Read: 7}, chain.Version{At: 7}, chain.Version{At: 8, N: 6, There: true}, chain.Version{At: 9, N: 4, There: true, Read: 20}, chain.Version{At: 20, N: 7, There: true, Open: true})
}

// P13.3: only an open version of just that time.
func TestEnds(t *testing.T) {
	c := chain.New(5, true)
	writes(t, c, 3, 1, true, api.OK)
	writes(t, c, 5, 2, true, api.OK)
	for _, at := range []int{0, 1, 2, 4, 6, lastTime, -3} {
		if c.Commit(at) || c.Abort(at) {
			t.Error(at)
		}
	}
	yes(t, "Abort", c.Abort(3))
	if c.Abort(3) || c.Commit(3) {
		t.Error("it is aborted already")
	}
	yes(t, "Commit", c.Commit(5))
	if c.Abort(5) || c.Commit(5) {
		t.Error("it is committed already")
	}
	has(t, c, chain.Version{N: 5, There: true}, chain.Version{At: 5, N: 2, There: true})
	writes(t, c, 3, 9, true, api.OK) // as if it had not been
	reads(t, c, 6, 2)
	fails(t, c, 4, api.ErrBusy)
}

// P13.3: of the versions below all but the last one are gone, but open ones stay.
func TestPrune(t *testing.T) {
	at := func(at int) chain.Version { return chain.Version{At: at, N: int64(at), There: true} }
	open := func(i int) chain.Version { v := at(i); v.Open = true; return v }
	for _, x := range []struct {
		below int
		want  []chain.Version
	}{
		{math.MinInt, []chain.Version{at(0), at(2), open(4), at(6), at(8), open(10)}},
		{0, []chain.Version{at(0), at(2), open(4), at(6), at(8), open(10)}},
		{2, []chain.Version{at(0), at(2), open(4), at(6), at(8), open(10)}},
		{3, []chain.Version{at(2), open(4), at(6), at(8), open(10)}},
		{6, []chain.Version{at(2), open(4), at(6), at(8), open(10)}},
		{7, []chain.Version{open(4), at(6), at(8), open(10)}},
		{8, []chain.Version{open(4), at(6), at(8), open(10)}},
		{9, []chain.Version{open(4), at(8), open(10)}},
		{11, []chain.Version{open(4), at(8), open(10)}},
		{math.MaxInt, []chain.Version{open(4), at(8), open(10)}},
	} {
		c := chain.New(0, true)
		for _, i := range []int{2, 4, 6, 8, 10} {
			writes(t, c, i, int64(i), true, api.OK)
			if i%4 == 2 && i < 10 || i == 8 {
				yes(t, "Commit", c.Commit(i))
			}
		}
		n := c.Prune(x.below)
		if n != 6-len(x.want) || c.Prune(x.below) != 0 {
			t.Error(x.below, n)
		}
		has(t, c, x.want...)
		first := x.want[0].At
		if first > 1 {
			fails(t, c, first-1, api.ErrLate)
			writes(t, c, first-1, 1, true, api.ErrLate)
		}
		if n, there := c.Latest(); n != 8 || !there {
			t.Error(n, there)
		}
	}
}

// P13.4
func TestLatest(t *testing.T) {
	latest := func(c *chain.Chain, want int64, wantThere bool) {
		t.Helper()
		if n, there := c.Latest(); n != want || there != wantThere {
			t.Fatal(n, there)
		}
	}
	c := chain.New(5, true)
	latest(c, 5, true)
	writes(t, c, 9, 7, true, api.OK)
	writes(t, c, 4, 0, false, api.OK)
	latest(c, 5, true)
	yes(t, "Commit", c.Commit(4))
	latest(c, 0, false)
	has(t, c, chain.Version{N: 5, There: true}, chain.Version{At: 4}, chain.Version{At: 9, N: 7, There: true, Open: true})
	yes(t, "Commit", c.Commit(9))
	latest(c, 7, true)
	writes(t, c, 6, 1, true, api.OK)
	yes(t, "Commit", c.Commit(6))
	latest(c, 7, true)
	latest(chain.New(3, false), 0, false)
}

// P13.4: what is told, and a copy, share nothing with the chain.
func TestShared(t *testing.T) {
	c := chain.New(5, true)
	writes(t, c, 3, 6, true, api.OK)
	want := c.Versions()
	clear(c.Versions())
	_ = append(c.Versions()[:1], chain.Version{At: 9})
	has(t, c, want...)
	d := c.Copy()
	has(t, d, want...)
	reads(t, d, 2, 5)
	writes(t, d, 3, 7, true, api.OK)
	writes(t, d, 4, 8, true, api.OK)
	yes(t, "Commit", d.Commit(3))
	has(t, c, want...)
	then := d.Versions()
	yes(t, "Abort", c.Abort(3))
	writes(t, c, 1, 8, true, api.OK)
	has(t, d, then...)
}

// told is that a time read what another one holds.
type told struct {
	at    int
	n     int64
	there bool
}

// last is the last version below a time.
func last(c *chain.Chain, at int) chain.Version {
	var last chain.Version
	for _, v := range c.Versions() {
		if v.At < at {
			last = v
		}
	}
	return last
}

// anything does something with a chain at some time up to most.
func anything(r *rand.Rand, c *chain.Chain, most int) {
	at := 1 + r.Intn(most)
	switch r.Intn(7) {
	case 0, 1, 2:
		c.Read(at)
	case 3, 4:
		c.Write(at, r.Int63n(9), r.Intn(3) > 0)
	case 5:
		c.Commit(at)
	case 6:
		c.Abort(at)
	}
}

// P13.5: in whatever order times come, what was read stays what is to be read.
func TestInOrder(t *testing.T) {
	seen := map[api.Errno]int{}
	for seed := range 400 {
		r := rand.New(rand.NewSource(int64(seed)))
		c := chain.New(1, seed%2 == 0)
		var all []told
		own := map[int]told{}
		for range 150 {
			at := 1 + r.Intn(40)
			switch r.Intn(6) {
			case 0, 1:
				n, there, e := c.Read(at)
				seen[e]++
				if w, wrote := own[at]; wrote {
					if (w != told{at, n, there}) || e != api.OK {
						t.Fatal(w, "was written, and is read as", n, there, e)
					}
				} else if e == api.OK {
					all = append(all, told{at, n, there})
				}
			case 2, 3:
				n, there := r.Int63n(9), r.Intn(3) > 0
				e := c.Write(at, n, there)
				seen[e]++
				if e == api.OK {
					if !there {
						n = 0
					}
					own[at] = told{at, n, there}
				}
			case 4:
				c.Commit(at)
			case 5:
				if c.Abort(at) {
					delete(own, at)
				}
			}
			for _, x := range all {
				if v := last(c, x.at); v.Open || v.N != x.n || v.There != x.there {
					t.Fatal(seed, x, "and now", v, "of", c.Versions())
				}
			}
			if l := c.Versions(); l[0].Open || !slices.IsSortedFunc(l, func(a, b chain.Version) int { return a.At - b.At }) {
				t.Fatal(l)
			}
		}
	}
	for _, e := range []api.Errno{api.OK, api.ErrBusy, api.ErrLate} {
		if seen[e] == 0 {
			t.Error("never seen:", e)
		}
	}
}

// P13.6: what is pruned was read by no time from there on.
func TestPruned(t *testing.T) {
	pruned := 0
	for seed := range 3000 {
		r := rand.New(rand.NewSource(int64(seed)))
		c := chain.New(1, seed%2 == 0)
		for range 30 {
			anything(r, c, 20)
		}
		below := r.Intn(24) - 1
		d := c.Copy()
		pruned += d.Prune(below)
		for at := max(1, below); at < 24; at++ {
			n, there, e := c.Copy().Read(at)
			m, also, f := d.Copy().Read(at)
			if n != m || there != also || e != f {
				t.Fatal(c.Versions(), "below", below, "at", at, n, there, e, "and pruned", m, also, f)
			}
			if e, f := c.Copy().Write(at, 1, true), d.Copy().Write(at, 1, true); e != f {
				t.Fatal(c.Versions(), "below", below, "at", at, "is written", e, "and pruned", f)
			}
		}
		n, there := c.Latest()
		if m, also := d.Latest(); n != m || there != also {
			t.Fatal(c.Versions(), "below", below)
		}
	}
	if pruned == 0 {
		t.Error("nothing was ever pruned")
	}
}
