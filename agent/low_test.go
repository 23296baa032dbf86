package agent_test

import (
	"slices"
	"testing"

	"byroad/api"
	"byroad/site"
)

// marked is a rig with marks of 1 to 5.
func marked(t *testing.T, kind int) *rig {
	t.Helper()
	r := fresh(t, kind, 3)
	r.sets(api.Row{Key: "x", N: 7})
	r.on(0, "run 1.2/1@1", "held 1.2/1 #1 []")
	r.on(0, "keep 1.2/1@1", "kept 1.2")
	r.on(0, "undo 1.2/1@1", "undone 1.2")
	r.on(0, "run 3.0/1@1", "held 3.0/1 #3 []")
	r.on(0, "keep 3.0/1@1", "kept 3.0")
	r.on(0, "drop 2.255/0@1", "dropped 2.255")
	r.on(0, "drop 5.1/0@1", "dropped 5.1")
	r.rows("x 7, ~k1.2 1, ~k3.0 1, ~t 3, ~u1.2 1, ~x2.255 1, ~x5.1 1")
	return r
}

// P22.2: the marks of what is over go, and nothing of it is done or told any more.
func TestLow(t *testing.T) {
	each(t, func(t *testing.T, kind int) {
		r := marked(t, kind)
		r.on(0, "keep 7.1/1@2", "lost 7.1/1 !3")
		r.rows("x 7, ~g 2, ~k3.0 1, ~t 3, ~x2.255 1, ~x5.1 1")
		for _, s := range []string{"run 1.2/9@1", "keep 1.2/9@1", "drop 1.2/0@1", "undo 1.2/9@1", "run 1.9/1@2 put y 1"} {
			r.on(0, s, "")
		}
		r.on(0, "run 2.255/1@1", "dropped 2.255")
		r.on(0, "drop 6.1/0@4", "dropped 6.1")
		r.rows("x 7, ~g 4, ~t 3, ~x5.1 1, ~x6.1 1")
		if r.a.Low() != 4 {
			t.Error(r.a.Low())
		}
		r.on(0, "drop 4.1/0@3", "dropped 4.1") // a lesser low of a late message
		if r.a.Low() != 4 {
			t.Error(r.a.Low())
		}
		r.on(0, "drop 3.0/0@1", "")
		r.rows("x 7, ~g 4, ~t 3, ~x4.1 1, ~x5.1 1, ~x6.1 1")
		r.anew(3)
		if r.a.Low() != 4 {
			t.Error(r.a.Low())
		}
		r.crash()
		r.on(0, "drop 3.0/0@1", "")
		r.on(0, "drop 1.2/0@1048577", "") // it is below its own message's low
		r.rows("x 7, ~g 1048577, ~t 3")
		r.on(0, "drop 1048576.0/0@1", "")
		r.works("")
	})
}

// P22.2: of whichever kind the request is, and whoever it is of.
func TestLowOfEachKind(t *testing.T) {
	for _, s := range []string{"run 5.2/1@4 get x", "keep 5.1/1@4", "drop 5.2/0@4", "undo 5.1/1@4", "undo 5.2/1@4", "run 1.2/1@4", "keep 3.0/1@4"} {
		each(t, func(t *testing.T, kind int) {
			r := marked(t, kind)
			r.a.Handle(ask(t, s), 0)
			if l := r.s.Names("k"); r.a.Low() != 4 || len(l) != 0 {
				t.Error(s, r.a.Low(), l)
			}
		})
	}
}

// P22.2: names that are no marks of what is over stay.
func TestLowNames(t *testing.T) {
	each(t, func(t *testing.T, kind int) {
		r := fresh(t, kind, 3)
		stay := []string{"~k", "~k.", "~k.1", "~k0", "~k0.1", "~k01.2", "~k00", "~k1_0", "~k1x.2", "~k8", "~k8.1", "~k99999999999999", "~a1.2", "~g1.2", "~kk1.2", "~t1.2", "~xu1", "~k_1.1", "~x3_.1", "k1.2", "x1", "u7.1"}
		gone := []string{"~k1", "~k7", "~k1.", "~k1.2.3", "~k7.x", "~u1..2", "~u7.255", "~x2.1"}
		for i, key := range slices.Concat(gone, stay) {
			r.sets(api.Row{Key: key, N: int64(i)}) // one holds 0
		}
		r.on(0, "run 1.1/1@8", "")
		var left []string
		for _, row := range r.s.Rows() {
			left = append(left, row.Key)
		}
		want := append(stay, "~g")
		slices.Sort(want)
		if !slices.Equal(left, want) {
			t.Error(left, "not", want)
		}
	})
}

// P22.2: the works of what is over are gone, and their local transactions aborted.
func TestLowWorks(t *testing.T) {
	for _, c := range []struct {
		kind int
		step string // which of two is next is the site's to say
	}{
		{site.Locks, "held 7.1/1 #4 [1]"},
		{site.Versions, "held 7.0/1 #4 [1], failed 7.1/1 !22"},
	} {
		r := marked(t, c.kind)
		r.on(0, "run 4.1/1@1 put z 1", "held 4.1/1 #4 [1]")
		r.on(0, "undo 3.0/1@1 put w 1", "")
		r.on(0, "run 3.9/1@1 put w 1", "")
		r.on(0, "run 7.1/1@1 put v 1", "")
		r.on(0, "run 7.0/1@1 put v 1", "")
		r.works("undo 3.0/1 =8 0, run 3.9/1 =9 0, run 4.1/1 =7 3 held, run 7.0/1 =11 0, run 7.1/1 =10 0")
		r.on(1, "run 2.1/1@7 put u 1", "")
		r.works("run 7.0/1 =11 0, run 7.1/1 =10 0")
		r.opened(10, 11)
		r.rows("x 7, ~g 7, ~t 3")
		r.step(1, c.step)
	}
	r := marked(t, site.Looks)
	r.on(0, "run 4.1/1@1 put z 1", "held 4.1/1 #4 [1]")
	r.on(0, "run 5.2/1@1 put z 2", "held 5.2/1 #4 [2]")
	l := r.fill()
	r.on(0, "undo 3.0/1@1 put w 1", "")
	r.ends(l[0])
	r.works("undo 3.0/1 =0 0, run 4.1/1 =7 3 held, run 5.2/1 =8 3 held")
	r.on(1, "keep 5.2/1@5", "kept 5.2")
	r.works("")
	r.opened(l[1:]...)
	r.rows("x 7, z 2, ~g 5, ~k5.2 1, ~t 4, ~x5.1 1")
}

// P22.2: what can't be written down does not count; the message is served by the low that was.
func TestLowRefused(t *testing.T) {
	each(t, func(t *testing.T, kind int) {
		r := marked(t, kind)
		r.on(0, "run 1.9/1@1 put z 1", "held 1.9/1 #4 [1]")
		is(t, "Room", r.k.Room(r.k.Used()), api.OK)
		r.on(0, "run 1.2/1@4 put z 1", "kept 1.2")
		r.on(0, "drop 5.1/0@4", "dropped 5.1")
		r.works("run 1.9/1 =7 3 held")
		if r.a.Low() != 1 {
			t.Error(r.a.Low())
		}
		is(t, "Room", r.k.Room(100000), api.OK)
		l := r.fill()
		r.on(0, "run 1.2/1@4 put z 1", "kept 1.2")
		r.rows("x 7, ~k1.2 1, ~k3.0 1, ~t 3, ~u1.2 1, ~x2.255 1, ~x5.1 1")
		r.ends(l[0])
		r.on(0, "run 1.2/1@4 put z 1", "")
		r.works("")
		r.opened(l[1:]...)
		r.rows("x 7, ~g 4, ~t 3, ~x5.1 1")
	})
	r := marked(t, site.Locks) // a mark that somebody has locked
	client := r.client("get ~k3.0")
	r.on(0, "drop 5.1/0@4", "dropped 5.1")
	if r.a.Low() != 1 || len(r.s.Names("g")) != 0 {
		t.Error(r.a.Low())
	}
	r.on(0, "drop 5.1/0@3", "dropped 5.1")
	r.rows("x 7, ~g 3, ~k3.0 1, ~t 3, ~x5.1 1")
	r.ends(client)
	r.on(0, "drop 5.1/0@4", "dropped 5.1")
	r.rows("x 7, ~g 4, ~t 3, ~x5.1 1")
	each(t, func(t *testing.T, kind int) { // the power fails
		r := marked(t, kind)
		r.k.Fuse(0)
		r.on(0, "drop 5.1/0@4", "dropped 5.1")
		r.on(0, "drop 5.2/0@4", "")
		if r.a.Low() != 1 {
			t.Error(r.a.Low())
		}
		r.crash()
		r.rows("x 7, ~k1.2 1, ~k3.0 1, ~t 3, ~u1.2 1, ~x2.255 1, ~x5.1 1")
	})
}
