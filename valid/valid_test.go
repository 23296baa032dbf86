package valid_test

import (
	"fmt"
	"math"
	"math/rand"
	"slices"
	"testing"

	"byroad/api"
	"byroad/valid"
)

// adds fails the test, if a commit more does not have just that number.
func adds(t *testing.T, h *valid.History, want int, keys ...string) {
	t.Helper()
	if n, e := h.Add(keys...); n != want || e != api.OK {
		t.Fatal("Add", keys, n, e, "not", want)
	}
}

// checks fails the test, if Check does not answer just that.
func checks(t *testing.T, h *valid.History, want api.Errno, since int, reads ...string) {
	t.Helper()
	if e := h.Check(since, reads...); e != want {
		t.Fatal("Check", since, reads, "answers", e, "not", want)
	}
}

// stale fails the test, if that commit is not the first one that wrote something of reads.
func stale(t *testing.T, h *valid.History, want int, since int, reads ...string) {
	t.Helper()
	checks(t, h, api.ErrStale, since, reads...)
	if n, there := h.First(since, reads...); n != want || !there {
		t.Fatal("First", since, reads, n, there, "not", want)
	}
}

// none fails the test, if there is a first one, or if Check does not answer just that.
func none(t *testing.T, h *valid.History, want api.Errno, since int, reads ...string) {
	t.Helper()
	checks(t, h, want, since, reads...)
	if n, there := h.First(since, reads...); n != 0 || there {
		t.Fatal("First", since, reads, n, there)
	}
}

// wrote fails the test, if a commit did not write just these keys.
func wrote(t *testing.T, h *valid.History, n int, want ...string) {
	t.Helper()
	if got := h.Keys(n); !slices.Equal(got, want) {
		t.Fatalf("Keys %d: %q not %q", n, got, want)
	}
}

// numbers fails the test, if now and the floor are not just these.
func numbers(t *testing.T, h *valid.History, now, floor int) {
	t.Helper()
	if h.Now() != now || h.Floor() != floor {
		t.Fatal("now", h.Now(), "not", now, "floor", h.Floor(), "not", floor)
	}
}

// forgets fails the test, if not just so many commits are forgotten.
func forgets(t *testing.T, h *valid.History, want int, below int) {
	t.Helper()
	if n := h.Forget(below); n != want {
		t.Fatal("Forget", below, n, "not", want)
	}
}

// P16
func TestNil(t *testing.T) {
	var h *valid.History
	for _, since := range []int{0, 1, -1} {
		none(t, h, api.ErrNil, since, "a")
		none(t, h, api.ErrNil, since)
	}
	if n, e := h.Add("a"); n != 0 || e != api.ErrNil {
		t.Error("Add", n, e)
	}
	forgets(t, h, 0, 5)
	numbers(t, h, 0, 0)
	wrote(t, h, 0)
	wrote(t, h, 1)
}

// The chapter's example.
func TestExample(t *testing.T) {
	h := valid.New()
	adds(t, h, 1, "a", "b")
	adds(t, h, 2, "c")
	none(t, h, api.OK, 1, "a", "b")
	stale(t, h, 2, 1, "c")
	stale(t, h, 1, 0, "a")
	forgets(t, h, 1, 2)
	none(t, h, api.ErrLate, 0)
	none(t, h, api.OK, 1)
}

// P16.1: a history that New has not made is a new one, too.
func TestNew(t *testing.T) {
	for what, h := range map[string]*valid.History{"new": valid.New(), "zero": {}} {
		t.Log(what)
		numbers(t, h, 0, 0)
		none(t, h, api.OK, 0, "a", "")
		none(t, h, api.ErrArg, 1, "a")
		forgets(t, h, 0, math.MaxInt)
		numbers(t, h, 0, 0)
		adds(t, h, 1, "a")
		stale(t, h, 1, 0, "a")
		numbers(t, h, 1, 0)
	}
}

// P16.1, P16.3: keys of any kind, each once, rising; a commit may have written none.
func TestKeys(t *testing.T) {
	h := valid.New()
	long := string(make([]byte, 1000))
	adds(t, h, 1, "b", "a", "", "b", "\xff", "~t", "a", long)
	adds(t, h, 2)
	adds(t, h, 3, "", "")
	wrote(t, h, 1, "", long, "a", "b", "~t", "\xff")
	wrote(t, h, 2)
	wrote(t, h, 3, "")
	for _, n := range []int{0, -1, math.MinInt, 4, math.MaxInt} {
		wrote(t, h, n)
	}
	for _, key := range []string{"", long, "a", "b", "~t", "\xff"} {
		stale(t, h, 1, 0, key)
	}
	for _, key := range []string{"A", "ab", "\x00", "~", "c", "\xfe"} {
		none(t, h, api.OK, 0, key)
	}
	none(t, h, api.OK, 1, "a")
	none(t, h, api.OK, 1)
	stale(t, h, 3, 1, "a", "")
}

// P16.2: only a commit above since counts, and the least one is told.
func TestCheck(t *testing.T) {
	h := valid.New()
	adds(t, h, 1, "a")
	adds(t, h, 2, "b", "c")
	adds(t, h, 3, "a", "c")
	adds(t, h, 4, "d")
	for _, c := range []struct {
		since, first int
		reads        []string
	}{
		{0, 1, []string{"a"}}, {0, 1, []string{"d", "c", "a"}}, {0, 2, []string{"c"}}, {0, 2, []string{"d", "b", "d"}}, {0, 4, []string{"d"}},
		{1, 3, []string{"a"}}, {1, 2, []string{"a", "b"}}, {2, 3, []string{"c", "b"}}, {2, 4, []string{"x", "d", "b"}}, {3, 4, []string{"a", "d", "c"}},
	} {
		stale(t, h, c.first, c.since, c.reads...)
	}
	none(t, h, api.OK, 0, "x", "", "ab")
	none(t, h, api.OK, 2, "b")
	none(t, h, api.OK, 3, "a", "b", "c")
	none(t, h, api.OK, 4, "a", "b", "c", "d")
	for _, since := range []int{-1, 5, math.MinInt, math.MaxInt} {
		none(t, h, api.ErrArg, since, "a", "b", "c", "d")
		none(t, h, api.ErrArg, since)
	}
}

// P16.2, P16.3: what is forgotten, and who is late then.
func TestForget(t *testing.T) {
	h := valid.New()
	for i := range 6 {
		adds(t, h, i+1, fmt.Sprint("k", i+1), "all")
	}
	for _, below := range []int{0, 1, -1, -6, math.MinInt, math.MinInt + 1} {
		forgets(t, h, 0, below)
		numbers(t, h, 6, 0)
	}
	forgets(t, h, 2, 3)
	numbers(t, h, 6, 2)
	for _, below := range []int{3, 2, 1, 0, -9, math.MinInt} {
		forgets(t, h, 0, below)
		numbers(t, h, 6, 2)
	}
	for n := range 3 {
		wrote(t, h, n)
	}
	wrote(t, h, 3, "all", "k3")
	wrote(t, h, 6, "all", "k6")
	wrote(t, h, 7)
	for _, since := range []int{0, 1} {
		none(t, h, api.ErrLate, since, "k1")
		none(t, h, api.ErrLate, since, "k6")
		none(t, h, api.ErrLate, since)
	}
	none(t, h, api.ErrArg, -1, "k6")
	none(t, h, api.ErrArg, 7, "k6")
	none(t, h, api.OK, 2, "k1", "k2")
	stale(t, h, 3, 2, "all")
	stale(t, h, 5, 2, "k6", "k5")
	forgets(t, h, 4, 7)
	numbers(t, h, 6, 6)
	forgets(t, h, 0, math.MaxInt)
	none(t, h, api.ErrLate, 5, "k6")
	none(t, h, api.OK, 6, "all")
	adds(t, h, 7, "k7")
	numbers(t, h, 7, 6)
	wrote(t, h, 7, "k7")
	stale(t, h, 7, 6, "k7")
	adds(t, h, 8, "k8")
	forgets(t, h, 2, math.MaxInt)
	numbers(t, h, 8, 8)
}

// The rules: what is told, and what is handed in, is shared with nothing, and not changed.
func TestShared(t *testing.T) {
	h := valid.New()
	keys := append(make([]string, 0, 9), "b", "a", "b", "c")
	adds(t, h, 1, keys...)
	if all := keys[:9]; !slices.Equal(all, []string{"b", "a", "b", "c", "", "", "", "", ""}) {
		t.Error(all)
	}
	reads := []string{"z", "c", "b"}
	stale(t, h, 1, 0, reads...)
	if !slices.Equal(reads, []string{"z", "c", "b"}) {
		t.Error(reads)
	}
	clear(keys)
	wrote(t, h, 1, "a", "b", "c")
	clear(h.Keys(1))
	_ = append(h.Keys(1)[:1], "y")
	wrote(t, h, 1, "a", "b", "c")
	stale(t, h, 1, 0, "c")
	none(t, h, api.OK, 0, "")
}

// model is the chapter's words: what each commit wrote, from 1 on, forgotten or not.
type model struct {
	commits [][]string
	floor   int
}

// first is the first commit above since that wrote one of reads, and Check's answer.
func (m *model) first(since int, reads []string) (int, api.Errno) {
	if since < 0 || since > len(m.commits) {
		return 0, api.ErrArg
	}
	if since < m.floor {
		return 0, api.ErrLate
	}
	for n := since + 1; n <= len(m.commits); n++ {
		for _, key := range reads {
			if slices.Contains(m.commits[n-1], key) {
				return n, api.ErrStale
			}
		}
	}
	return 0, api.OK
}

// some is some of a few keys.
func some(r *rand.Rand) []string {
	var l []string
	for range r.Intn(4) {
		l = append(l, string(rune('a'+r.Intn(8))))
	}
	return l
}

// P16.1, P16.2, P16.3: anything is done, and held against the chapter's words.
func TestModel(t *testing.T) {
	seen := map[api.Errno]int{}
	for seed := range 300 {
		r := rand.New(rand.NewSource(int64(seed)))
		h, m := valid.New(), &model{}
		for range 200 {
			switch r.Intn(6) {
			case 0, 1:
				keys := some(r)
				m.commits = append(m.commits, keys)
				adds(t, h, len(m.commits), keys...)
			case 2:
				below := r.Intn(len(m.commits)+8) - 3
				floor := max(m.floor, min(below-1, len(m.commits)))
				forgets(t, h, floor-m.floor, below)
				m.floor = floor
			case 3:
				n := r.Intn(len(m.commits)+4) - 2
				if n <= m.floor || n > len(m.commits) {
					wrote(t, h, n)
					break
				}
				l := slices.Sorted(slices.Values(m.commits[n-1]))
				wrote(t, h, n, slices.Compact(l)...)
			default:
				since, reads := max(-1, m.floor-2+r.Intn(len(m.commits)-m.floor+4)), some(r)
				n, e := m.first(since, reads)
				seen[e]++
				if e == api.ErrStale {
					stale(t, h, n, since, reads...)
				} else {
					none(t, h, e, since, reads...)
				}
			}
			numbers(t, h, len(m.commits), m.floor)
		}
	}
	for _, e := range []api.Errno{api.OK, api.ErrArg, api.ErrLate, api.ErrStale} {
		if seen[e] == 0 {
			t.Error("never seen:", e)
		}
	}
}

// P16.4: who was OK is so later just if nothing between wrote what it read, and nothing that it asks for was forgotten.
func TestStays(t *testing.T) {
	seen := map[api.Errno]int{}
	for seed := range 3000 {
		r := rand.New(rand.NewSource(int64(seed)))
		h := valid.New()
		for i := range r.Intn(6) {
			adds(t, h, i+1, some(r)...)
		}
		since, reads := r.Intn(h.Now()+1), some(r)
		if h.Check(since, reads...) != api.OK {
			continue
		}
		want := api.OK
		for range r.Intn(4) {
			keys := some(r)
			if slices.ContainsFunc(keys, func(key string) bool { return slices.Contains(reads, key) }) {
				want = api.ErrStale
			}
			adds(t, h, h.Now()+1, keys...)
		}
		h.Forget(r.Intn(h.Now() + 2))
		if h.Floor() > since {
			want = api.ErrLate
		}
		checks(t, h, want, since, reads...)
		seen[want]++
	}
	for _, e := range []api.Errno{api.OK, api.ErrLate, api.ErrStale} {
		if seen[e] == 0 {
			t.Error("never seen:", e)
		}
	}
}

// P16.5: who has read nothing is never stale.
func TestNothingRead(t *testing.T) {
	h := valid.New()
	for n := range 50 {
		adds(t, h, n+1, "a", "", "b")
		for since := range n + 2 {
			none(t, h, api.OK, since)
			none(t, h, api.OK, since, []string{}...)
		}
	}
}
