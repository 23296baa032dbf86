package journal_test

import (
	"fmt"
	"math/rand"
	"slices"
	"strings"
	"testing"

	"byroad/api"
	"byroad/journal"
)

// states is what a journal may have behind a loss of power.
type states struct {
	state string
	recs  []string
	sure  int     // how many of recs surely last
	saved *string // the state of a Save that was under way
}

// may: is that one of them?
func (s *states) may(j *journal.Journal) bool {
	if s.saved != nil && string(j.State()) == *s.saved && j.Len() == 0 {
		return true
	}
	if string(j.State()) != s.state || j.Len() < s.sure || j.Len() > len(s.recs) {
		return false
	}
	for i, r := range j.Recs() {
		if string(r) != s.recs[i] {
			return false
		}
	}
	return true
}

// step does one call of both; it answers what the journal does.
func (s *states) step(j *journal.Journal, r *rand.Rand, i int) api.Errno {
	var recs []string
	for range r.Intn(3) {
		recs = append(recs, fmt.Sprint(i, strings.Repeat("r", r.Intn(9))))
	}
	switch r.Intn(8) {
	case 0, 1, 2:
		e := j.Append(raw(recs...)...)
		if e == api.OK {
			s.recs = append(s.recs, recs...)
		}
		return e
	case 3, 4:
		e := j.Write(raw(recs...)...)
		s.recs = append(s.recs, recs...) // also without power, for that may have failed at the sync alone
		return s.synced(e)
	case 5, 6:
		return s.synced(j.Sync())
	}
	state := fmt.Sprint("s", i)
	e := j.Save([]byte(state))
	if e == api.OK {
		*s = states{state: state}
	} else {
		s.saved = &state
	}
	return e
}

// synced: behind an OK all records last.
func (s *states) synced(e api.Errno) api.Errno {
	if e == api.OK {
		s.sure = len(s.recs)
	}
	return e
}

// P5.5, P5.6: the power fails at any change of the tape, also while the journal is opened, and any beginnings of what was not synced last.
func TestLasts(t *testing.T) {
	r := rand.New(rand.NewSource(5))
	for round := range 3000 {
		d := disk(t, 1000)
		j := open(t, d, 16+r.Intn(60))
		s := &states{}
		for i := range 3 + r.Intn(40) {
			if i == 2 {
				d.Fuse(r.Intn(40))
			}
			if e := s.step(j, r, i); e == api.ErrDown {
				break
			} else if e != api.OK {
				t.Fatal(round, e)
			}
		}
		var keeps []int
		for range len(d.Segs()) {
			keeps = append(keeps, r.Intn(40)-3)
		}
		x := d.Crash(keeps...)
		x.Fuse(r.Intn(6))
		if _, e := journal.Open(x, 32); e == api.ErrDown {
			x = x.Crash()
		}
		x.Fuse(-1)
		once := open(t, x, 32)
		if !s.may(once) {
			t.Fatalf("round %d, keeps %d: %s\nnot of %+v\n%s", round, keeps, log(once), s, tells(d))
		}
		before := tells(x)
		x.Fuse(0)
		twice := open(t, x, 16)
		if log(twice) != log(once) || tells(x) != before || x.Down() {
			t.Fatalf("round %d: opened again: %s\nnot %s", round, log(twice), log(once))
		}
	}
}

// P5.5: of one call, with the power failing at each change and with each beginning of what was not synced, what lasts.
func TestLastsAtEachCut(t *testing.T) {
	const next = "this one comes into the next segment"
	unsynced := []string{`"s" ["a"]`, `"s" ["a" "b"]`}
	for _, c := range []struct {
		name string
		call func(j *journal.Journal) api.Errno
		cut  []string // what may last too, if it does not answer OK
		done []string // what may last, if it does
	}{
		{"Append", func(j *journal.Journal) api.Errno { return j.Append(raw("d", "e")...) }, nil,
			[]string{`"s" ["a"]`, `"s" ["a" "b"]`, `"s" ["a" "b" "c"]`, `"s" ["a" "b" "c" "d"]`, `"s" ["a" "b" "c" "d" "e"]`}},
		{"Append to the next one", func(j *journal.Journal) api.Errno { return j.Append([]byte(next)) }, unsynced,
			[]string{`"s" ["a" "b" "c"]`, `"s" ["a" "b" "c" "` + next + `"]`}},
		{"Write", func(j *journal.Journal) api.Errno { return j.Write(raw("d", "e")...) }, append(unsynced, `"s" ["a" "b" "c"]`, `"s" ["a" "b" "c" "d"]`),
			[]string{`"s" ["a" "b" "c" "d" "e"]`}},
		{"Sync", (*journal.Journal).Sync, unsynced, []string{`"s" ["a" "b" "c"]`}},
		{"Save", func(j *journal.Journal) api.Errno { return j.Save([]byte("t")) }, append(unsynced, `"s" ["a" "b" "c"]`), []string{`"t" []`}},
	} {
		seen := map[string]int{}
		for fuse := range 5 {
			for keep := range 40 {
				for last := range 46 {
					d := disk(t, 1000)
					j := open(t, d, 48)
					must(t, j.Save([]byte("s")), j.Write([]byte("a")), j.Append(raw("b", "c")...))
					d.Fuse(fuse)
					e := c.call(j)
					got := log(open(t, d.Crash(keep, last), 48))
					if !slices.Contains(c.done, got) && (e == api.OK || !slices.Contains(c.cut, got)) {
						t.Fatalf("%s, %d changes, keeps %d, %d: %d %s", c.name, fuse, keep, last, e, got)
					}
					seen[got]++
				}
			}
		}
		for _, want := range slices.Concat(c.cut, c.done) {
			if seen[want] == 0 {
				t.Error(c.name, "never seen:", want)
			}
		}
	}
}
