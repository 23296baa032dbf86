package agent_test

import (
	"math"
	"testing"

	"byroad/api"
	"byroad/site"
)

// P22.2: a run that goes on at once is held; nothing of it counts till it is kept.
func TestRunKeep(t *testing.T) {
	each(t, func(t *testing.T, kind int) {
		r := fresh(t, kind, 3)
		r.sets(api.Row{Key: "x", N: 7}, api.Row{Key: "~t", N: 40})
		r.on(0, "run 3.0/2@1 get x; add x 1; del x; get y", "held 3.0/2 #41 [7 8 8 0]")
		r.works("run 3.0/2 =2 6 held")
		r.opened(2)
		r.rows("x 7, ~t 40")
		r.step(50, "")
		r.works("run 3.0/2 =2 6 held")
		r.on(50, "keep 3.0/2@1", "kept 3.0")
		r.works("")
		r.opened()
		r.rows("~k3.0 1, ~t 41")
		for range 2 {
			r.on(51, "keep 3.0/2@1", "kept 3.0")
			r.on(51, "keep 3.0/9@1", "kept 3.0")
			r.on(51, "run 3.0/9@1 put z 1", "kept 3.0")
			r.on(51, "drop 3.0/0@1", "kept 3.0")
		}
		r.works("")
		r.rows("~k3.0 1, ~t 41")
		r.on(52, "run 3.1/1@1", "held 3.1/1 #42 []") // another node, without operations
		r.on(52, "keep 3.1/1@1", "kept 3.1")
		r.rows("~k3.0 1, ~k3.1 1, ~t 42")
	})
}

// P22.2: as many operations as there may be.
func TestRunMost(t *testing.T) {
	each(t, func(t *testing.T, kind int) {
		r := fresh(t, kind, 3)
		r.on(0, "run 1048576.255/1048576@1048576 add a 1; add a 1; add a 1; add a 1; add a 1; add a 1; add a 1; add a 1",
			"held 1048576.255/1048576 #1 [1 2 3 4 5 6 7 8]")
		r.on(0, "keep 1048576.255/1048576@1", "kept 1048576.255")
		r.rows("a 8, ~g 1048576, ~k1048576.255 1, ~t 1")
	})
}

// P22.2: a run that is asked again: of the same try it is told again, of another try it begins anew.
func TestRunAgain(t *testing.T) {
	each(t, func(t *testing.T, kind int) {
		r := fresh(t, kind, 3)
		r.on(0, "run 1.2/1@1 add x 5", "held 1.2/1 #1 [5]")
		r.on(1, "run 1.2/1@1 add x 5", "held 1.2/1 #1 [5]")
		r.on(1, "run 1.2/1@1 put y 9", "held 1.2/1 #1 [5]")
		r.works("run 1.2/1 =1 3 held")
		r.opened(1)
		r.on(2, "run 1.2/0@1 add x 6; get x", "held 1.2/0 #1 [6 6]")
		r.works("run 1.2/0 =2 4 held")
		r.opened(2)
		r.on(2, "keep 1.2/1@1", "lost 1.2/1 !3")
		r.on(2, "run 1.2/1@1 add x 7", "held 1.2/1 #1 [7]")
		r.works("run 1.2/1 =3 3 held")
		r.on(2, "keep 1.2/1@1", "kept 1.2")
		r.rows("x 7, ~k1.2 1, ~t 1")
		r.opened()
	})
}

// P22.2: of a run under way the same try is not told; another try begins anew.
func TestRunUnderWay(t *testing.T) {
	for _, kind := range []int{site.Locks, site.Versions} {
		r := fresh(t, kind, 3)
		client := r.client("put x 1")
		r.on(0, "run 1.2/1@1 add x 5", "")
		r.on(0, "run 1.2/1@1 add x 5", "")
		r.works("run 1.2/1 =2 1")
		r.on(0, "keep 1.2/1@1", "") // it is not held yet
		r.works("run 1.2/1 =2 1")
		r.on(0, "keep 1.2/2@1", "lost 1.2/2 !3")
		r.works("run 1.2/1 =2 1")
		r.on(2, "run 1.2/2@1 add y 5; add x 6", "")
		r.works("run 1.2/2 =3 2")
		r.opened(client, 3)
		r.step(4, "")
		is(t, "Commit", r.s.Commit(client), api.OK)
		r.step(4, "held 1.2/2 #1 [5 7]")
	}
}

// P22.2: a run that fails is gone, and nothing of it is left.
func TestRunFails(t *testing.T) {
	each(t, func(t *testing.T, kind int) {
		r := fresh(t, kind, 3)
		r.sets(api.Row{Key: "x", N: 1})
		r.on(0, "run 1.2/1@1 put y 1; min x -2 0", "failed 1.2/1 !24")
		r.on(0, "run 1.2/2@1 put y 1; put x 9223372036854775807; add x 1", "failed 1.2/2 !25")
		r.works("")
		r.opened()
		r.rows("x 1")
		r.on(0, "keep 1.2/2@1", "lost 1.2/2 !3")
		r.sets(api.Row{Key: "~t", N: math.MaxInt64})
		r.on(0, "run 1.2/3@1", "failed 1.2/3 !25")
		r.works("")
		r.opened()
	})
}

// P22.2: a run whose local transaction can't begin.
func TestRunCantBegin(t *testing.T) {
	each(t, func(t *testing.T, kind int) {
		r := fresh(t, kind, 3)
		l := r.fill()
		r.on(0, "run 1.2/1@1 put y 1", "failed 1.2/1 !5")
		r.works("")
		r.opened(l...)
		r.ends(l[0])
		r.on(0, "run 1.2/1@1 put y 1", "held 1.2/1 #1 [1]")
		r.on(0, "run 1.3/1@1 put y 1", "failed 1.3/1 !5")
		r.works("run 1.2/1 =33 3 held")
		r.on(0, "run 1.2/2@1 put y 2", "held 1.2/2 #1 [2]") // the first try's place is free
		r.works("run 1.2/2 =34 3 held")
	})
}

// P22.2: without room on the tape.
func TestRunNoRoom(t *testing.T) {
	each(t, func(t *testing.T, kind int) {
		r := fresh(t, kind, 3)
		is(t, "Room", r.k.Room(0), api.OK)
		if kind == site.Locks { // it writes at each change, the others at a commit
			r.on(0, "run 1.2/1@1 put y 1", "failed 1.2/1 !5")
		} else {
			r.on(0, "run 1.2/1@1 put y 1", "held 1.2/1 #1 [1]")
			r.on(0, "keep 1.2/1@1", "lost 1.2/1 !5")
		}
		r.works("")
		r.opened()
		r.on(0, "drop 1.2/0@1", "")
		r.rows("")
		is(t, "Room", r.k.Room(100000), api.OK)
		r.on(0, "run 1.2/1@1 put y 1", "held 1.2/1 #1 [1]")
		is(t, "Room", r.k.Room(r.k.Used()), api.OK)
		r.on(0, "keep 1.2/1@1", "lost 1.2/1 !5")
		r.works("")
		r.opened()
		r.rows("")
	})
}

// P22.2: whoever waits so long as the limit says fails; each operation that is done lets it wait anew.
func TestSlow(t *testing.T) {
	for _, kind := range []int{site.Locks, site.Versions} {
		for _, limit := range []int64{1, 3, 10} {
			r := fresh(t, kind, limit)
			x, y := r.client("put x 1"), r.client("put y 1")
			r.on(100, "run 1.2/1@1 add x 5; add y 5", "")
			r.works("run 1.2/1 =3 1")
			r.step(100, "")
			r.step(99, "")
			r.step(0, "")
			r.step(100+limit-1, "")
			r.works("run 1.2/1 =3 1")
			is(t, "Commit", r.s.Commit(x), api.OK)
			r.step(100+limit-1, "")
			r.works("run 1.2/1 =3 2")
			r.step(100+limit-1+limit-1, "")
			r.works("run 1.2/1 =3 2")
			r.step(100+limit-1+limit, "failed 1.2/1 !27")
			r.works("")
			r.opened(y)
			r.rows("x 1")
		}
	}
}

// P22.2: the first operation waits since the run began.
func TestSlowTicket(t *testing.T) {
	for _, kind := range []int{site.Locks, site.Versions} {
		r := fresh(t, kind, 4)
		r.on(10, "run 1.1/1@1 add x 5", "held 1.1/1 #1 [5]")
		r.on(20, "run 1.2/1@1 add y 5", "")
		r.works("run 1.1/1 =1 3 held, run 1.2/1 =2 0")
		r.step(23, "")
		r.on(23, "run 1.2/1@1 add y 5", "") // asked again it waits since then all the same
		r.step(24, "failed 1.2/1 !27")
		r.works("run 1.1/1 =1 3 held")
	}
}

// P22.2: a limit may be as great as a time.
func TestNeverSlow(t *testing.T) {
	r := fresh(t, site.Locks, maxTime)
	r.client("put x 1")
	r.on(0, "run 1.2/1@1 add x 5", "")
	r.step(maxTime-1, "")
	r.step(maxTime, "failed 1.2/1 !27")
}

// P22.2: a run whose local transaction was aborted by somebody else.
func TestKilled(t *testing.T) {
	each(t, func(t *testing.T, kind int) {
		r := fresh(t, kind, 3)
		r.on(0, "run 1.2/1@1 add x 5", "held 1.2/1 #1 [5]")
		r.ends(1)
		r.step(1, "")
		r.works("run 1.2/1 =1 3 held")
		r.on(1, "run 1.2/1@1 add x 5", "held 1.2/1 #1 [5]") // nobody has told it yet
		r.on(1, "keep 1.2/1@1", "lost 1.2/1 !26")
		r.works("")
		r.on(1, "keep 1.2/1@1", "lost 1.2/1 !3")
		r.rows("")
		if kind == site.Looks {
			return // nobody waits there
		}
		r.client("put x 1")
		r.on(2, "run 1.2/2@1 add x 5", "")
		r.ends(3)
		r.step(2, "failed 1.2/2 !26")
		r.works("")
		r.opened(2)
	})
}

// P22.2: one that stands in a circle of those that wait.
func TestVictim(t *testing.T) {
	r := fresh(t, site.Locks, 30)
	first := r.client("put x 1")
	r.on(0, "run 1.2/1@1 put y 5; add x 5", "")
	if _, e := r.s.Do(first, api.Op{Kind: api.Get, Key: "y"}); e != api.OK {
		t.Fatal(e) // the run's is the greater number: it was aborted
	}
	r.works("run 1.2/1 =2 2")
	r.step(1, "failed 1.2/1 !26")
	r.works("")
	r.ends(first)

	r = fresh(t, site.Locks, 30)
	first, second := r.client("put x 1"), r.client("put z 1")
	r.on(0, "run 1.2/1@1 put y 5; add z 1; add x 5", "")
	if _, e := r.s.Do(first, api.Op{Kind: api.Get, Key: "y"}); e != api.ErrBusy {
		t.Fatal(e)
	}
	r.ends(second)
	r.step(1, "failed 1.2/1 !21") // its own third operation closes the circle
	r.works("")
	r.opened(first)
}

// P22.2: one that comes too late, and one that has read what was changed since.
func TestLateAndStale(t *testing.T) {
	r := fresh(t, site.Versions, 30)
	client := r.client("put w 1")
	r.on(0, "run 1.2/1@1 get w; put x 5", "")
	is(t, "Commit", r.s.Commit(r.client("get x")), api.OK)
	is(t, "Commit", r.s.Commit(client), api.OK)
	r.step(1, "failed 1.2/1 !22")
	r.works("")
	r.opened()

	r = fresh(t, site.Looks, 30)
	r.on(0, "run 1.2/1@1 add x 5", "held 1.2/1 #1 [5]")
	r.sets(api.Row{Key: "x", N: 1})
	r.on(0, "keep 1.2/1@1", "lost 1.2/1 !23")
	r.works("")
	r.opened()
	r.rows("x 1")
	r.on(0, "run 1.2/2@1 add x 5", "held 1.2/2 #1 [6]")
	r.on(0, "run 1.3/1@1 add y 5", "held 1.3/1 #1 [5]") // the same ticket: one of them is stale
	r.on(0, "keep 1.2/2@1", "kept 1.2")
	r.on(0, "keep 1.3/1@1", "lost 1.3/1 !23")
	r.rows("x 6, ~k1.2 1, ~t 1")
}

// P22.2: Keep of what is not there, or of another try.
func TestKeepLost(t *testing.T) {
	each(t, func(t *testing.T, kind int) {
		r := fresh(t, kind, 3)
		r.on(0, "keep 1.2/1@1", "lost 1.2/1 !3")
		r.on(0, "run 1.2/1@1 put x 5", "held 1.2/1 #1 [5]")
		r.on(0, "keep 1.2/0@1", "lost 1.2/0 !3")
		r.on(0, "keep 1.3/1@1", "lost 1.3/1 !3")
		r.on(0, "keep 2.2/1@1", "lost 2.2/1 !3")
		r.works("run 1.2/1 =1 3 held")
		r.on(0, "keep 1.2/1@1", "kept 1.2")
	})
}

// P22.2: what is given up for good is not done any more.
func TestDrop(t *testing.T) {
	each(t, func(t *testing.T, kind int) {
		r := fresh(t, kind, 3)
		r.on(0, "run 1.2/1@1 put x 5", "held 1.2/1 #1 [5]")
		r.on(0, "drop 1.2/0@1", "dropped 1.2")
		r.works("")
		r.opened()
		for range 2 {
			r.on(0, "drop 1.2/0@1", "dropped 1.2")
			r.on(0, "run 1.2/1@1 put x 5", "dropped 1.2")
			r.on(0, "run 1.2/2@1 put x 5", "dropped 1.2")
			r.on(0, "keep 1.2/1@1", "dropped 1.2")
			r.on(0, "undo 1.2/1@1 put x 5", "")
		}
		r.works("")
		r.rows("~x1.2 1")
		r.on(0, "drop 1.3/0@1", "dropped 1.3") // what was never begun
		r.on(0, "run 2.2/1@1 put x 5", "held 2.2/1 #1 [5]")
		r.on(0, "drop 2.1/0@1", "dropped 2.1") // another one's run stays
		r.on(0, "drop 1.4/0@1", "dropped 1.4")
		r.on(0, "keep 2.2/1@1", "kept 2.2")
		r.rows("x 5, ~k2.2 1, ~t 1, ~x1.2 1, ~x1.3 1, ~x1.4 1, ~x2.1 1")
	})
}

// P22.2: a Drop of what waits, and one that can't be written down: nothing is told, but the run is gone.
func TestDropOpen(t *testing.T) {
	each(t, func(t *testing.T, kind int) {
		r := fresh(t, kind, 3)
		r.on(0, "run 1.2/1@1 put x 5", "held 1.2/1 #1 [5]")
		is(t, "Room", r.k.Room(r.k.Used()), api.OK)
		r.on(0, "drop 1.2/0@1", "")
		r.works("")
		r.opened()
		r.on(0, "keep 1.2/1@1", "lost 1.2/1 !3")
		is(t, "Room", r.k.Room(100000), api.OK)
		r.rows("")
		l := r.fill()
		r.on(0, "drop 1.2/0@1", "")
		r.ends(l[0])
		r.on(0, "drop 1.2/0@1", "dropped 1.2")
		r.rows("~x1.2 1")
	})
	for _, kind := range []int{site.Locks, site.Versions} {
		r := fresh(t, kind, 3)
		client := r.client("put x 1")
		r.on(0, "run 1.2/1@1 add x 5", "")
		r.on(0, "drop 1.2/0@1", "dropped 1.2")
		r.works("")
		r.opened(client)
	}
}

// P22.2: without power nothing is told; a run that is held stays.
func TestPowerFails(t *testing.T) {
	each(t, func(t *testing.T, kind int) {
		r := fresh(t, kind, 3)
		r.on(0, "run 1.2/1@1 put x 5", "held 1.2/1 #1 [5]")
		r.k.Fuse(0)
		r.on(0, "keep 1.2/1@1", "")
		r.works("run 1.2/1 =1 3 held")
		r.on(0, "keep 1.2/1@1", "")
		r.on(0, "run 1.2/1@1 put x 5", "held 1.2/1 #1 [5]")
		r.on(0, "drop 1.3/0@1", "")
		r.on(0, "undo 1.2/0@1 put x 5", "")
		r.step(9, "")
		r.works("run 1.2/1 =1 3 held")
		r.on(0, "drop 1.2/0@1", "")
		r.works("")
		r.crash()
		r.rows("")
		r.on(0, "keep 1.2/1@1", "lost 1.2/1 !3")
	})
	r := fresh(t, site.Locks, 3) // a change is written where the others write nothing yet
	r.k.Fuse(3)
	r.on(0, "run 1.2/1@1 put x 5; put y 6; put z 7; put w 8", "")
	l := r.a.Works()
	if len(l) != 1 || l[0].Done == 0 || l[0].Held || !r.k.Down() {
		t.Fatal(l, r.k.Down())
	}
	r.step(100, "")
	if w := r.a.Works(); len(w) != 1 || w[0] != l[0] {
		t.Fatal(w, "not", l)
	}
}
