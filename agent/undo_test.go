package agent_test

import (
	"testing"

	"byroad/api"
	"byroad/site"
)

// kept is a rig at which 1.2 is kept, and x holds 5.
func kept(t *testing.T, kind int, limit int64) *rig {
	t.Helper()
	r := fresh(t, kind, limit)
	r.on(0, "run 1.2/1@1 add x 5", "held 1.2/1 #1 [5]")
	r.on(0, "keep 1.2/1@1", "kept 1.2")
	return r
}

// P22.2: what is kept is taken back once.
func TestUndo(t *testing.T) {
	each(t, func(t *testing.T, kind int) {
		r := kept(t, kind, 3)
		r.on(0, "undo 1.3/1@1 back x -5", "") // that was never kept
		r.on(0, "undo 2.2/1@1 back x -5", "")
		r.works("")
		r.on(0, "undo 1.2/7@1 back x -5; put y 1", "undone 1.2")
		r.rows("x 0, y 1, ~k1.2 1, ~t 2, ~u1.2 1")
		for range 2 {
			r.on(0, "undo 1.2/7@1 back x -5", "undone 1.2")
			r.on(0, "undo 1.2/8@1 back x -5", "undone 1.2")
			r.on(0, "run 1.2/9@1 add x 5", "kept 1.2")
			r.on(0, "keep 1.2/9@1", "kept 1.2")
			r.on(0, "drop 1.2/0@1", "kept 1.2")
		}
		r.works("")
		r.opened()
		r.rows("x 0, y 1, ~k1.2 1, ~t 2, ~u1.2 1")
		r.on(0, "run 1.3/1@1 add x 5", "held 1.3/1 #3 [5]")
		r.on(0, "undo 1.3/1@1 back x -5", "") // held is not kept
		r.works("run 1.3/1 =3 3 held")
	})
}

// P22.2: an undo without operations leaves its mark.
func TestUndoNothing(t *testing.T) {
	each(t, func(t *testing.T, kind int) {
		r := kept(t, kind, 3)
		r.on(0, "undo 1.2/0@1", "undone 1.2")
		r.rows("x 5, ~k1.2 1, ~t 2, ~u1.2 1")
	})
}

// P22.2, P22.3: an undo that waits goes on; one that is slow begins anew at the next Step.
func TestUndoWaits(t *testing.T) {
	for _, kind := range []int{site.Locks, site.Versions} {
		r := kept(t, kind, 4)
		client := r.client("put x 9")
		r.on(10, "undo 1.2/7@1 put y 1; back x -5", "")
		r.works("undo 1.2/7 =3 2")
		r.on(12, "undo 1.2/7@1 put y 1; back x -5", "") // there is one
		r.on(12, "undo 1.2/8@1 back x -6", "")
		r.works("undo 1.2/7 =3 2")
		r.on(12, "run 1.2/8@1 add x 6", "kept 1.2")
		r.step(13, "")
		r.works("undo 1.2/7 =3 2")
		r.step(14, "")
		r.works("undo 1.2/7 =0 0")
		r.opened(client)
		r.step(14, "")
		r.works("undo 1.2/7 =4 2")
		r.step(17, "")
		r.works("undo 1.2/7 =4 2")
		r.on(30, "undo 1.2/9@1 put y 1; back x -5", "") // it goes on at a Step alone
		r.works("undo 1.2/7 =4 2")
		is(t, "Commit", r.s.Commit(client), api.OK)
		r.step(30, "undone 1.2")
		r.works("")
		r.opened()
		r.rows("x 4, y 1, ~k1.2 1, ~t 2, ~u1.2 1")
	}
}

// P22.3: an undo that was killed, or fails, begins anew.
func TestUndoAnew(t *testing.T) {
	for _, kind := range []int{site.Locks, site.Versions} {
		r := kept(t, kind, 4)
		client := r.client("put x 9")
		r.on(10, "undo 1.2/7@1 back x -5", "")
		r.ends(client, 3)
		r.works("undo 1.2/7 =3 1")
		r.step(10, "")
		r.works("undo 1.2/7 =0 0")
		r.step(10, "undone 1.2")
		r.rows("x 0, ~k1.2 1, ~t 2, ~u1.2 1")
	}
	each(t, func(t *testing.T, kind int) {
		r := kept(t, kind, 4)
		r.on(1, "undo 1.2/7@1 min x -6 0", "")
		r.works("undo 1.2/7 =0 0")
		r.opened()
		r.step(2, "")
		r.step(2, "")
		r.works("undo 1.2/7 =0 0")
		r.sets(api.Row{Key: "x", N: 6})
		r.step(2, "undone 1.2")
		r.rows("x 0, ~k1.2 1, ~t 2, ~u1.2 1")
	})
}

// P22.2, P22.3: an undo whose local transaction can't begin stays without one.
func TestUndoCantBegin(t *testing.T) {
	each(t, func(t *testing.T, kind int) {
		r := kept(t, kind, 4)
		l := r.fill()
		r.on(0, "undo 1.2/7@1 back x -5", "")
		r.works("undo 1.2/7 =0 0")
		r.step(50, "")
		r.works("undo 1.2/7 =0 0")
		r.opened(l...)
		r.ends(l[3])
		r.step(50, "undone 1.2")
		r.works("")
	})
	r := kept(t, site.Locks, 4) // it waits since it could begin
	client := r.client("put x 9")
	l := r.fill()
	r.on(0, "undo 1.2/7@1 back x -5", "")
	r.ends(l...)
	id := r.client("get ~t")
	r.step(50, "")
	r.step(53, "")
	r.works("undo 1.2/7 =35 0")
	r.step(54, "")
	r.works("undo 1.2/7 =0 0")
	r.ends(client, id)
	r.step(54, "undone 1.2")
}

// P22.3: an undo whose commit fails begins anew; without power it stays as it is.
func TestUndoCantCommit(t *testing.T) {
	each(t, func(t *testing.T, kind int) {
		r := kept(t, kind, 4)
		is(t, "Room", r.k.Room(r.k.Used()), api.OK)
		r.on(0, "undo 1.2/7@1 back x -5", "")
		r.works("undo 1.2/7 =0 0")
		r.opened()
		r.step(1, "")
		r.works("undo 1.2/7 =0 0")
		r.rows("x 5, ~k1.2 1, ~t 1")
		is(t, "Room", r.k.Room(100000), api.OK)
		r.step(1, "undone 1.2")
		r.rows("x 0, ~k1.2 1, ~t 2, ~u1.2 1")
		r.crash()
		r.rows("x 0, ~k1.2 1, ~t 2, ~u1.2 1")
		r.on(0, "undo 1.2/7@1 back x -5", "undone 1.2")
	})
	for n, kind := range []int{site.Versions, site.Looks} {
		r := kept(t, kind, 4)
		r.k.Fuse(n) // they write at the commit alone
		r.on(0, "undo 1.2/7@1 back x -5", "")
		r.works("undo 1.2/7 =2 3")
		r.step(100, "")
		r.works("undo 1.2/7 =2 3")
		r.opened(2)
		r.crash()
		r.rows("x 5, ~k1.2 1, ~t 1")
		r.on(0, "undo 1.2/7@1 back x -5", "undone 1.2")
	}
}

// P22.2: an undo that comes too late to be committed begins anew.
func TestUndoStale(t *testing.T) {
	r := kept(t, site.Looks, 4)
	r.k.Fuse(-1)
	is(t, "Room", r.k.Room(r.k.Used()), api.OK)
	r.on(0, "undo 1.2/7@1 back x -5", "")
	r.works("undo 1.2/7 =0 0")
	is(t, "Room", r.k.Room(100000), api.OK)
	r.on(0, "run 1.3/1@1 add x 1", "held 1.3/1 #2 [6]")
	r.step(0, "undone 1.2") // it does not wait for whoever is under way
	r.on(0, "keep 1.3/1@1", "lost 1.3/1 !23")
	r.rows("x 0, ~k1.2 1, ~t 2, ~u1.2 1")

	r = kept(t, site.Versions, 4)
	client := r.client("put w 1")
	r.on(0, "undo 1.2/7@1 get w; put x 5", "")
	is(t, "Commit", r.s.Commit(r.client("get x")), api.OK)
	is(t, "Commit", r.s.Commit(client), api.OK)
	r.step(1, "")
	r.works("undo 1.2/7 =0 0")
	r.step(1, "undone 1.2")
}
