package coord_test

import (
	"fmt"
	"math"
	"slices"
	"testing"

	"byroad/api"
	"byroad/book"
	"byroad/coord"
	"byroad/journal"
	"byroad/mess"
	"byroad/tape"
)

// nobody are numbers that no global transaction has.
var nobody = []int{math.MinInt, -1, 0, 99, 1 << 32, 1<<32 + 1, math.MaxInt}

// The chapter's example.
func TestExample(t *testing.T) {
	r := fresh(t, usual)
	r.tick(0, "run 1.1/1 >1 @1 add x 5")
	r.on(0, "held 1", "keep 1.1/1 >1 @1")
	r.on(0, "kept 1", "run 1.2/1 >2 @1 put z 3")
	r.on(0, "failed 1", "drop 1.2 >2 @1")
	r.on(0, "dropped 1", "run 1.3/1 >3 @1 put w 1")
	r.on(0, "held 1", "keep 1.3/1 >3 @1")
	r.on(0, "kept 1", "")
	r.over(1, book.Committed, 3)
}

// Of a nil manager, and of one that Open has not made.
func TestNil(t *testing.T) {
	for _, c := range []*coord.Coord{nil, {}} {
		r := &rig{t: t, c: c}
		r.refused(usual, 0, api.ErrNil)
		r.refused(usual+"\npath f", 0, api.ErrNil)
		x, e := c.Status(1)
		if e != api.ErrNil || fmt.Sprint(x) != fmt.Sprint(book.Txn{}) || c.Cancel(1) != api.ErrNil || c.Save() != api.ErrNil {
			t.Error("Status, Cancel, Save", x, e)
		}
		m := mess.Msg{Kind: mess.Kept, From: 1, About: mess.About{G: 1, Node: 1}}
		if len(c.List()) != 0 || len(c.Handle(m, 0)) != 0 || len(c.Tick(0)) != 0 || len(c.Users()) != 0 {
			t.Error("lists")
		}
		if c.Low() != 0 || c.Next() != 0 || c.Size(1) != 0 {
			t.Error("numbers", c.Low(), c.Next(), c.Size(1))
		}
		r.asks(1, "")
	}
}

// P29.1: Open.
func TestOpen(t *testing.T) {
	k, _ := tape.New(1000)
	opens := func(k *tape.Tape, seg int, every int64, want api.Errno) {
		t.Helper()
		if c, e := coord.Open(k, seg, every); e != want || (c != nil) != (e == api.OK) {
			t.Error("Open", seg, every, e, "not", want)
		}
	}
	for _, every := range []int64{math.MinInt64, -1, 0, 1001, 1 << 32, 1<<32 + 1, math.MaxInt64} {
		opens(k, 100, every, api.ErrArg)
		opens(nil, 100, every, api.ErrArg) // ahead of the book's error
	}
	for _, every := range []int64{1, 1000} {
		opens(k, 16, every, api.OK)
		opens(k, 15, every, api.ErrArg)
		opens(k, api.MaxDisk+1, every, api.ErrArg)
		opens(nil, 100, every, api.ErrNil)
	}
	torn, _ := tape.New(1000)
	torn.Append(0, []byte("torn"))
	torn.Fuse(0)
	opens(torn, 100, 3, api.ErrDown)
	j, _ := journal.Open(k, 100)
	j.Write([]byte("no record"))
	opens(k, 100, 3, api.ErrForm)
}

// P29.1: a new manager has nothing.
func TestNew(t *testing.T) {
	r := fresh(t)
	if r.c.Low() != 1 || r.c.Next() != 1 || len(r.c.List()) != 0 || len(r.c.Users()) != 0 {
		t.Error(tells(t, r.c))
	}
	r.tick(0, "")
}

// P29.1, P0.7: texts that can't be read, or are not well-formed, are answered with the place and the error, and change nothing.
func TestSubmitRefused(t *testing.T) {
	r := fresh(t, usual)
	r.tick(0, "run 1.1/1 >1 @1 add x 5")
	r.stays(func() {
		used := r.k.Used()
		r.refused("", 0, api.ErrForm)
		r.refused("sub a 0 pivot get x", 0, api.ErrForm)
		r.refused("\n\nnonsense", 2, api.ErrForm)
		r.refused(usual+"\n\npath d\npath f", 9, api.ErrName)
		r.refused(usual+"\npath a a a a a a a a a\npath f", 7, api.ErrLong)
		r.refused("sub p 0 pivot get x\nsub q 1 retry add x 1\npath p q", 1, api.ErrType)
		r.refused(usual+"\npath a b", 0, api.ErrPath)
		r.refused(subs+"a b a", 0, api.ErrPath)
		r.refused(subs+"b a", 1, api.ErrStuck)
		r.refused(subs+"d a b e", 3, api.ErrStuck)
		if r.k.Used() != used {
			t.Error("something was written")
		}
	})
	r.submit(usual, 2)
}

// P29.1: Submit, if as many are active as may be; a text's error is told ahead of that.
func TestSubmitFull(t *testing.T) {
	r := fresh(t)
	for g := range 16 {
		r.submit(usual, g+1)
	}
	r.stays(func() {
		r.refused(usual, 0, api.ErrFull)
		r.refused(usual+"\npath f", 7, api.ErrName)
		r.refused(subs+"b a", 1, api.ErrStuck)
	})
	if len(r.c.List()) != 16 || len(r.c.Users()) != 16 {
		t.Error(r.c.List())
	}
}

// P29.1: Submit without room, and without power.
func TestSubmitTape(t *testing.T) {
	r := fresh(t, usual)
	r.full()
	r.stays(func() { r.refused(usual, 0, api.ErrFull) })
	r.roomy()
	r.k.Fuse(0)
	r.stays(func() {
		r.refused(usual, 0, api.ErrDown)
		r.refused(subs+"b a", 1, api.ErrStuck)
		is(t, "Save", r.c.Save(), api.ErrDown)
	})
}

// P29.1, P29.5: Status, List, Low, Next, Size as transactions come and go.
func TestTold(t *testing.T) {
	r := fresh(t, subs+"a b", subs+"d", subs+"e", usual+"\npath e")
	told := func(low, next int, list ...int) {
		t.Helper()
		if r.c.Low() != low || r.c.Next() != next || !slices.Equal(r.c.List(), list) {
			t.Fatal(r.c.Low(), r.c.Next(), r.c.List(), "not", low, next, list)
		}
	}
	told(1, 5, 1, 2, 3, 4)
	for g, size := range []int{0, 3, 2, 2, 5, 0} {
		if r.c.Size(g) != size {
			t.Error("Size", g, r.c.Size(g))
		}
	}
	r.c.Tick(0)
	r.does(0, "held 2", "kept 2")
	r.over(2, book.Committed, 1)
	told(1, 5, 1, 3, 4)
	r.stands(1, book.Running, 0, false)
	r.does(0, "held 1", "kept 1")
	r.stands(1, book.Running, 1, false)
	r.does(0, "held 1", "kept 1")
	r.over(1, book.Committed, 2)
	told(3, 5, 3, 4)
	r.does(0, "failed 3", "dropped 3")
	r.over(3, book.Aborted, 0)
	told(4, 5, 4)
	r.submit(usual, 5)
	told(4, 6, 4, 5)
	for _, g := range nobody {
		x, e := r.c.Status(g)
		if e != api.ErrNone || fmt.Sprint(x) != fmt.Sprint(book.Txn{}) || r.c.Size(g) != 0 {
			t.Error("Status, Size", g, x, e, r.c.Size(g))
		}
		r.asks(g, "")
	}
}

// P29.1: the book remembers 64 that are over.
func TestForgotten(t *testing.T) {
	r := fresh(t)
	for g := range 66 {
		r.submit(subs+"e", g+1)
		r.c.Tick(0)
		r.does(0, "held "+fmt.Sprint(g+1), "kept "+fmt.Sprint(g+1))
	}
	for g := range 68 {
		x, e := r.c.Status(g)
		if known := g > 2 && g <= 66; known != (e == api.OK) || !known && e != api.ErrNone || known && x.Outcome != book.Committed {
			t.Error("Status", g, x, e)
		}
	}
}

// P29.1: Save is the book's.
func TestSave(t *testing.T) {
	r := fresh(t, usual, usual)
	r.c.Tick(0)
	r.does(0, "held 1", "kept 1", "failed 1", "dropped 1")
	was, used := lasting(r.c), r.k.Used()
	is(t, "Save", r.c.Save(), api.OK)
	if r.k.Used() >= used || lasting(r.c) != was {
		t.Error("nothing was saved", r.k.Used(), used)
	}
	r.asks(1, "run 1.3/1 >3 @1 put w 1")
	r.crash()
	if lasting(r.c) != was {
		t.Error("opened", lasting(r.c), "not", was)
	}
	r.full()
	r.stays(func() { is(t, "Save", r.c.Save(), api.ErrFull) })
}

// P29.5: Users, as far as each has come.
func TestUsers(t *testing.T) {
	r := fresh(t, usual, subs+"c", usual)
	uses := func(want string) {
		t.Helper()
		for range 2 {
			got := r.c.Users()
			if fmt.Sprint(got) != want {
				t.Fatal("Users", got, "not", want)
			}
			for _, u := range got {
				clear(u.Sites) // what is told shares nothing
			}
			clear(got)
		}
	}
	uses("[{1 [0 1 2]} {2 [2]} {3 [0 1 2]}]")
	r.c.Tick(0)
	r.does(0, "held 1", "kept 1", "failed 1")
	uses("[{1 [0 1 2]} {2 [2]} {3 [0 1 2]}]")
	r.does(0, "dropped 1")
	uses("[{1 [0 2]} {2 [2]} {3 [0 1 2]}]")
	r.does(0, "held 1", "kept 1")
	uses("[{2 [2]} {3 [0 1 2]}]")
	is(t, "Cancel", r.c.Cancel(3), api.OK)
	uses("[{2 [2]} {3 [0]}]")
}

// What is told shares nothing with the manager.
func TestShared(t *testing.T) {
	r := fresh(t, usual, usual)
	for range 2 {
		l := r.c.Tick(10)
		if len(l) > 0 {
			clear(l[0].Ops)
			clear(l)
		}
		q, _ := r.c.Request(1)
		clear(q.Ops)
		clear(r.c.List())
		r.asks(1, "run 1.1/1 >1 @1 add x 5")
	}
	r.tick(13, "run 1.1/1 >1 @1 add x 5")
	r.does(13, "held 1", "kept 1", "failed 1", "dropped 1", "failed 1")
	x, _ := r.c.Status(1)
	clear(x.Failed)
	r.stands(1, book.Running, 1, false, 2)
}
