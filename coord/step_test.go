package coord_test

import (
	"math"
	"testing"

	"byroad/api"
	"byroad/book"
	"byroad/mess"
)

// P29.3, P29.4: what is asked is sent again behind every ticks, with the low of that time.
func TestAgain(t *testing.T) {
	r := fresh(t, subs+"e", usual)
	r.tick(5, "run 1.1/1 >1 @1 put u 1")
	r.tick(5, "")
	r.tick(7, "")
	r.tick(8, "run 1.1/1 >1 @1 put u 1")
	r.on(9, "held 1", "keep 1.1/1 >1 @1") // it was never sent
	r.tick(11, "")
	r.tick(12, "keep 1.1/1 >1 @1")
	r.on(13, "kept 1", "run 2.1/1 >1 @2 add x 5")
	r.over(1, book.Committed, 1)
	r.submit(subs+"c", 3)
	r.on(13, "held 2", "keep 2.1/1 >1 @2")
	r.on(13, "kept 2", "run 2.2/1 >2 @2 put z 3")
	r.on(13, "held 2", "keep 2.2/1 >2 @2")
	r.on(13, "kept 2", "run 3.1/1 >3 @3 put w 1")
	r.tick(maxTime, "run 3.1/1 >3 @3 put w 1")
}

// What is open already is sent with a low that has risen since.
func TestLowRises(t *testing.T) {
	r := fresh(t, subs+"e", subs+"c")
	r.tick(0, "run 1.1/1 >1 @1 put u 1, run 2.1/1 >3 @1 put w 1")
	r.on(1, "held 1", "keep 1.1/1 >1 @1")
	r.on(1, "kept 1", "")
	r.asks(2, "run 2.1/1 >3 @1 put w 1")
	r.tick(3, "run 2.1/1 >3 @2 put w 1")
	r.on(3, "held 2", "keep 2.1/1 >3 @2")
}

// P29.3, P29.4: at no time nothing is done.
func TestNoTime(t *testing.T) {
	r := fresh(t, usual, subs+"c")
	for _, now := range []int64{math.MinInt64, -1, maxTime + 1, math.MaxInt64} {
		r.stays(func() { r.tick(now, "") })
	}
	r.tick(0, "run 1.1/1 >1 @1 add x 5")
	r.does(0, "held 1")
	for _, now := range []int64{math.MinInt64, -1, maxTime + 1, math.MaxInt64} {
		for _, s := range []string{"kept 1", "lost 1", "dropped 1"} {
			r.stays(func() { r.on(now, s, "") })
		}
	}
	r.on(maxTime, "kept 1", "run 1.2/1 >2 @1 put z 3")
}

// P29.3: replies that fit no request count for nothing; nor is anything sent then that is due.
func TestFitsNot(t *testing.T) {
	r := fresh(t, usual)
	is(t, "Cancel", r.c.Cancel(1), api.OK)
	r.submit(usual, 2)
	r.c.Tick(0)
	r.does(0, "dropped 1", "held 2", "kept 2")
	q, _ := r.c.Request(2)
	right := answer(q, mess.Failed)
	for what, spoil := range map[string]func(*mess.Msg){
		"none":                   func(m *mess.Msg) { *m = mess.Msg{} },
		"may not be":             func(m *mess.Msg) { m.Code = 0 },
		"of another transaction": func(m *mess.Msg) { m.G = 1 },
		"of nobody":              func(m *mess.Msg) { m.G = 3 },
		"of another node":        func(m *mess.Msg) { m.Node = 1 },
		"of another try":         func(m *mess.Msg) { m.Try = 2 },
		"of another site":        func(m *mess.Msg) { m.From = 1 },
		"of another step":        func(m *mess.Msg) { *m = answer(q, mess.Lost) },
		"of another step too":    func(m *mess.Msg) { *m = answer(q, mess.Undone) },
		"a request":              func(m *mess.Msg) { *m = q },
	} {
		m := right
		spoil(&m)
		r.stays(func() {
			if l := r.c.Handle(m, 10); len(l) > 0 {
				t.Error(what, says(t, l...))
			}
		})
	}
	r.on(10, "failed 2", "drop 2.2 >2 @2")
}

// P29.3: what fails that is not sure is dropped, be it run or held.
func TestDropped(t *testing.T) {
	r := fresh(t, subs+"e a b\npath d")
	r.tick(0, "run 1.1/1 >1 @1 put u 1")
	r.on(1, "held 1", "keep 1.1/1 >1 @1")
	r.on(2, "lost 1", "drop 1.1 >1 @1")
	r.tick(4, "")
	r.tick(5, "drop 1.1 >1 @1")
	r.on(5, "kept 1", "run 1.2/1 >1 @1 add x 5") // it was lost, but was kept nevertheless
	r.stands(1, book.Running, 1, false)
	r.on(5, "failed 1", "drop 1.2 >1 @1")
	r.on(5, "dropped 1", "undo 1.1/1 >1 @1 del u")
	r.stands(1, book.Running, 1, false, 2)
	r.tick(7, "")
	r.tick(8, "undo 1.1/1 >1 @1 del u")
	r.on(8, "undone 1", "run 1.4/1 >3 @1 put v 1")
	r.stands(1, book.Running, 0, false, 1, 2)
	r.on(8, "kept 1", "") // told again
	r.over(1, book.Committed, 4)
}

// P29.3: what fails that is sure is tried again, with one more try each time, and not ahead of its time; c is sure, and d can be taken back, too.
func TestSure(t *testing.T) {
	for path, l := range map[string][]string{"c d": {"put w 1", "put v 1"}, "d c": {"put v 1", "put w 1"}} {
		r := fresh(t, subs+path)
		r.tick(0, "run 1.1/1 >3 @1 "+l[0])
		r.on(1, "failed 1", "")
		r.asks(1, "")
		r.tick(3, "")
		r.tick(4, "run 1.1/2 >3 @1 "+l[0])
		r.on(4, "held 1", "keep 1.1/2 >3 @1")
		r.on(6, "lost 1", "")
		r.asks(1, "")
		r.tick(8, "")
		r.asks(1, "")
		r.tick(9, "run 1.1/3 >3 @1 "+l[0])
		r.on(9, "held 1", "keep 1.1/3 >3 @1")
		r.on(9, "kept 1", "run 1.2/1 >3 @1 "+l[1]) // the next one is at its first try
		r.on(9, "failed 1", "")
		r.tick(12, "run 1.2/2 >3 @1 "+l[1])
	}
}

// P29.3: who waits for his next try does not keep others waiting who need not.
func TestWaitsAlone(t *testing.T) {
	r := fresh(t, subs+"c", subs+"e")
	r.tick(0, "run 1.1/1 >3 @1 put w 1, run 2.1/1 >1 @1 put u 1")
	r.on(0, "failed 1", "")
	r.on(2, "held 2", "keep 2.1/1 >1 @1")
	r.tick(3, "run 1.1/2 >3 @1 put w 1")
}

// P29.6: requests, tries, and what is waited for are gone with the manager.
func TestBegunAnew(t *testing.T) {
	r := fresh(t, subs+"c d")
	r.tick(0, "run 1.1/1 >3 @1 put w 1")
	r.on(0, "failed 1", "")
	r.crash()
	r.asks(1, "")
	r.tick(1, "run 1.1/1 >3 @1 put w 1")
	r.on(1, "held 1", "keep 1.1/1 >3 @1")
	r.crash()
	r.tick(1, "run 1.1/1 >3 @1 put w 1")
	r.on(1, "kept 1", "run 1.2/1 >3 @1 put v 1")
	r.crash()
	r.tick(1, "run 1.2/1 >3 @1 put v 1")
}

// P29.3: of a book without room or power nothing is changed, the request stays; but the others go on.
func TestBookRefuses(t *testing.T) {
	for _, s := range []struct {
		ahead, reply, request string
		after                 []string
	}{
		{"held 1", "kept 1", "keep 1.1/1 >1 @1", nil},
		{"failed 1", "dropped 1", "drop 1.1 >1 @1", nil},
		{"failed 1", "undone 1", "undo 1.1/1 >1 @1 del u", []string{"kept 1", "failed 1", "dropped 1"}},
	} {
		for _, down := range []bool{false, true} {
			r := fresh(t, subs+"e a\npath d", subs+"b")
			r.c.Tick(0)
			r.does(0, append([]string{s.ahead}, s.after...)...)
			r.does(0, "held 2")
			if down {
				r.k.Fuse(0)
			} else {
				r.full()
			}
			r.stays(func() { r.on(1, s.reply, "") })
			r.asks(1, s.request)
			r.on(3, s.reply, s.request+", keep 2.1/1 >2 @1")
			if down {
				r.crash()
				r.c.Tick(4)
				continue
			}
			r.roomy()
			r.does(4, s.reply)
			if q, _ := r.c.Request(1); says(t, q) == s.request {
				t.Error("it stays", s.request)
			}
		}
	}
}

// P29.4: an end that can't be written down comes later.
func TestEndLater(t *testing.T) {
	r := fresh(t, subs+"e", subs+"e", subs+"a")
	r.c.Tick(0)
	used := r.k.Used()
	r.does(0, "failed 1", "dropped 1", "held 2")
	is(t, "Room", r.k.Room(r.k.Used()+(r.k.Used()-used)/2+1), api.OK) // enough for a decision, but not for the end
	r.on(0, "kept 2", "run 3.1/1 >1 @2 add x 5")                      // a leaf uses no site
	r.stands(2, book.Running, 1, false)
	r.stays(func() { r.tick(1, "") })
	r.roomy()
	r.tick(3, "run 3.1/1 >1 @3 add x 5")
	r.over(2, book.Committed, 1)
}

// P29.2: errors of Cancel, which change nothing.
func TestCancelRefused(t *testing.T) {
	r := fresh(t, subs+"e", usual, subs+"b")
	r.c.Tick(0)
	r.does(0, "failed 1", "dropped 1", "held 2", "kept 2")
	r.over(1, book.Aborted, 0)
	r.stays(func() {
		for _, g := range append(nobody, 1, 4) {
			is(t, "Cancel", r.c.Cancel(g), api.ErrNone)
		}
		is(t, "Cancel", r.c.Cancel(2), api.ErrPast)
		is(t, "Cancel", r.c.Cancel(3), api.ErrPast)
	})
	r.asks(2, "run 2.2/1 >2 @2 put z 3")
	r.does(0, "failed 2", "dropped 2", "failed 2")
	r.stays(func() { is(t, "Cancel", r.c.Cancel(2), api.ErrPast) })
	r = fresh(t, usual)
	r.c.Tick(0)
	r.full()
	r.stays(func() { is(t, "Cancel", r.c.Cancel(1), api.ErrFull) })
	r.k.Fuse(0)
	r.roomy()
	r.stays(func() { is(t, "Cancel", r.c.Cancel(1), api.ErrDown) })
	r.asks(1, "run 1.1/1 >1 @1 add x 5")
}

// P29.2: what runs, or is held, is to be dropped, as if that was never sent.
func TestCancel(t *testing.T) {
	for _, ahead := range [][]string{nil, {"held 1"}, {"failed 1"}} {
		r := fresh(t, subs+"a\npath e")
		r.c.Tick(4)
		r.does(4, ahead...)
		is(t, "Cancel", r.c.Cancel(1), api.OK)
		r.stands(1, book.Running, 0, true, 2)
		r.asks(1, "drop 1.1 >1 @1")
		want := "drop 1.1 >1 @1"
		if len(ahead) > 0 && ahead[0] == "failed 1" {
			want = "" // a Drop stays, which was sent already
		}
		r.tick(4, want)
		r.tick(6, "")
		r.tick(7, "drop 1.1 >1 @1")
		is(t, "Cancel", r.c.Cancel(1), api.OK) // once more
		r.tick(8, "")
		r.on(8, "dropped 1", "")
		r.over(1, book.Aborted, 0)
	}
}

// P29.2: what is kept already is taken back.
func TestCancelKept(t *testing.T) {
	r := fresh(t, subs+"a e b")
	r.c.Tick(0)
	r.does(0, "held 1", "kept 1", "held 1")
	is(t, "Cancel", r.c.Cancel(1), api.OK)
	r.tick(0, "drop 1.2 >1 @1")
	r.on(0, "kept 1", "undo 1.2/1 >1 @1 del u")
	is(t, "Cancel", r.c.Cancel(1), api.OK)
	r.asks(1, "undo 1.2/1 >1 @1 del u")
	r.tick(0, "")
	r.on(0, "undone 1", "undo 1.1/1 >1 @1 back x -5")
	r.on(0, "undone 1", "")
	r.over(1, book.Aborted, 0)
}

// P29.2: an Undo stays.
func TestCancelUndo(t *testing.T) {
	r := fresh(t, subs+"a e\npath d")
	r.c.Tick(0)
	r.does(0, "held 1", "kept 1", "failed 1", "dropped 1")
	r.asks(1, "undo 1.1/1 >1 @1 back x -5")
	is(t, "Cancel", r.c.Cancel(1), api.OK)
	r.stands(1, book.Running, 1, true, 2, 3)
	r.tick(2, "")
	r.tick(3, "undo 1.1/1 >1 @1 back x -5")
	r.on(3, "undone 1", "")
	r.over(1, book.Aborted, 0)
}

// P29.2: who has no request goes on by its plan, when it does not wait any more.
func TestCancelWaits(t *testing.T) {
	r := fresh(t, subs+"d", subs+"e", usual)
	r.tick(0, "run 1.1/1 >3 @1 put v 1, run 2.1/1 >1 @1 put u 1")
	r.on(0, "failed 1", "")
	is(t, "Cancel", r.c.Cancel(1), api.OK)
	is(t, "Cancel", r.c.Cancel(3), api.OK) // it waits for site 0
	r.asks(1, "")
	r.asks(3, "")
	r.tick(2, "drop 3.1 >1 @1")
	r.on(2, "dropped 3", "")
	r.over(3, book.Aborted, 0)
	r.tick(3, "drop 1.1 >3 @1, run 2.1/1 >1 @1 put u 1")
	r.on(3, "dropped 1", "")
	r.over(1, book.Aborted, 0)
}

// P29.7: nobody comes to a site that a lesser one may use still; and whoever may come then does so at once.
func TestInOrder(t *testing.T) {
	r := fresh(t, usual, subs+"e", usual, subs+"c")
	r.tick(0, "run 1.1/1 >1 @1 add x 5")
	r.on(0, "held 1", "keep 1.1/1 >1 @1")
	r.on(0, "kept 1", "run 1.2/1 >2 @1 put z 3")
	r.on(0, "held 1", "keep 1.2/1 >2 @1")
	r.on(0, "kept 1", "run 2.1/1 >1 @2 put u 1") // 4 waits for 3
	r.over(1, book.Committed, 2)
	r.on(0, "held 2", "keep 2.1/1 >1 @2")
	r.on(0, "kept 2", "run 3.1/1 >1 @3 add x 5")
	r.on(0, "failed 3", "drop 3.1 >1 @3")
	r.on(0, "dropped 3", "run 4.1/1 >3 @4 put w 1") // 3 ended, and then 4 goes on, once more round
	r.over(3, book.Aborted, 0)
}

// P29.7: a lesser one that can't come to a site any more is not waited for.
func TestFreed(t *testing.T) {
	r := fresh(t, subs+"e b c d", subs+"a", subs+"b")
	r.tick(0, "run 1.1/1 >1 @1 put u 1")
	r.on(0, "held 1", "keep 1.1/1 >1 @1")
	r.on(0, "kept 1", "run 1.2/1 >2 @1 put z 3") // e may be taken back still
	r.on(0, "held 1", "keep 1.2/1 >2 @1")
	r.on(0, "kept 1", "run 1.3/1 >3 @1 put w 1, run 2.1/1 >1 @1 add x 5, run 3.1/1 >2 @1 put z 3")
}

// P1: whatever comes, each call ends; what is none counts for nothing.
func TestJunk(t *testing.T) {
	r := fresh(t, usual, subs+"c")
	r.c.Tick(0)
	numbers := []int{math.MinInt, -1, 0, 1, 2, 1 << 20, math.MaxInt}
	r.stays(func() {
		for _, kind := range append(numbers, mess.Held, mess.Kept, mess.Undone) {
			for _, g := range numbers {
				for _, n := range []int{math.MinInt, -1, math.MaxInt} {
					m := mess.Msg{Kind: kind, From: 1, About: mess.About{G: g, Node: 1, Try: n}, Low: n, Code: api.Errno(n), Ticket: int64(n)}
					if l := r.c.Handle(m, 0); len(l) > 0 {
						t.Error("Handle", m, l)
					}
				}
			}
		}
		for _, s := range []string{"\x00", "path", "sub", "sub a 0 comp add x 5 |", "\xff\xfe\n\n", "path \n sub"} {
			if g, _, e := r.c.Submit(s); g != 0 || e == api.OK {
				t.Error("Submit", s, g, e)
			}
		}
	})
}
