package page_test

import (
	"fmt"
	"math/rand"
	"slices"
	"testing"

	"byroad/api"
	"byroad/page"
)

// model is a store by the chapter's words alone: all rows, rising, and how many of them each page has.
type model struct {
	most  int
	rows  []api.Row
	sizes []int
}

// pages is the model's pages.
func (m *model) pages() [][]api.Row {
	var l [][]api.Row
	from := 0
	for _, n := range m.sizes {
		l = append(l, slices.Clone(m.rows[from:from+n]))
		from += n
	}
	return l
}

// of is the number of a key's page: the last one whose first key is not above it.
func (m *model) of(key string) int {
	for i, p := range slices.Backward(m.pages()) {
		if p[0].Key <= key {
			return i
		}
	}
	return 0
}

// at is the place of a key's row.
func (m *model) at(key string) int {
	return slices.IndexFunc(m.rows, func(row api.Row) bool { return row.Key == key })
}

func (m *model) put(key string, n int64) api.Errno {
	if i := m.at(key); i >= 0 {
		m.rows[i].N = n
		return api.OK
	}
	if len(m.rows) == api.MaxRows {
		return api.ErrFull
	}
	if len(m.sizes) == 0 {
		m.sizes = []int{0}
		m.rows = nil
	}
	i := 0
	if len(m.rows) > 0 {
		i = m.of(key)
	}
	m.sizes[i]++
	m.rows = append(m.rows, api.Row{Key: key, N: n})
	slices.SortFunc(m.rows, func(a, b api.Row) int {
		if a.Key < b.Key {
			return -1
		}
		return 1
	})
	if m.sizes[i] > m.most {
		first := m.sizes[i] / 2
		m.sizes = slices.Concat(m.sizes[:i], []int{first, m.sizes[i] - first}, m.sizes[i+1:])
	}
	return api.OK
}

func (m *model) del(key string) bool {
	at := m.at(key)
	if at < 0 {
		return false
	}
	i := m.of(key)
	m.rows = slices.Concat(m.rows[:at], m.rows[at+1:])
	m.sizes[i]--
	if m.sizes[i] == 0 {
		m.sizes = slices.Concat(m.sizes[:i], m.sizes[i+1:])
		return true
	}
	if m.sizes[i] >= m.most/2 {
		return true
	}
	if i+1 < len(m.sizes) && m.sizes[i]+m.sizes[i+1] <= m.most {
		m.sizes = slices.Concat(m.sizes[:i], []int{m.sizes[i] + m.sizes[i+1]}, m.sizes[i+2:])
	} else if i > 0 && m.sizes[i-1]+m.sizes[i] <= m.most {
		m.sizes = slices.Concat(m.sizes[:i-1], []int{m.sizes[i-1] + m.sizes[i]}, m.sizes[i+1:])
	}
	return true
}

// sound fails the test, if a store's words do not hold.
func sound(t *testing.T, what string, s *page.Store, most int) {
	t.Helper()
	last, n := "", 0
	for i, p := range s.Pages() {
		if len(p) < 1 || len(p) > most {
			t.Fatal(what, "page", i, "has", len(p), "rows")
		}
		for _, row := range p {
			if n > 0 && row.Key <= last {
				t.Fatal(what, "not rising at", row.Key)
			}
			last, n = row.Key, n+1
		}
	}
	if n != s.Len() || n > api.MaxRows {
		t.Fatal(what, "Len", s.Len(), "of", n)
	}
}

// P8.2 to P8.4, P8.6, P8.8: what comes of any puts and deletions, page by page; and a loaded store, and a copy, go on as the first one does.
func TestModel(t *testing.T) {
	for _, most := range []int{2, 3, 4, 5, 7, 8, 32, 63, 64} {
		for _, keys := range []int{9, 60, 400} {
			r := rand.New(rand.NewSource(int64(most*1000 + keys)))
			s, e := page.New(most)
			if e != api.OK {
				t.Fatal(e)
			}
			m := &model{most: most}
			for n := range 3000 {
				what := fmt.Sprint("most ", most, ", keys ", keys, ", step ", n)
				// Waves, so that the pages fill and are emptied again.
				key := fmt.Sprintf("k%03d", r.Intn(keys))
				if r.Intn(10) < 3+4*(n/500%2) {
					if got, want := s.Del(key), m.del(key); got != want {
						t.Fatal(what, "Del", key, got, want)
					}
				} else if got, want := s.Put(key, int64(n)), m.put(key, int64(n)); got != want {
					t.Fatal(what, "Put", key, got, want)
				}
				if !same(s.Pages(), m.pages()) {
					t.Fatal(what, key, s.Pages(), m.pages())
				}
				switch r.Intn(30) {
				case 0:
					sound(t, what, s, most)
					b := s.Bytes()
					if s, e = page.Load(b, most); e != api.OK || !same(s.Pages(), m.pages()) {
						t.Fatal(what, "Load", e)
					}
				case 1:
					other := s.Copy()
					other.Put(key, -1)
					other.Del(fmt.Sprintf("k%03d", r.Intn(keys)))
					if !same(s.Pages(), m.pages()) {
						t.Fatal(what, "the copy is not another one")
					}
					s = s.Copy()
				}
			}
		}
	}
}

// P8.7: what is held does not hang on how many rows a page may have.
func TestAnyMost(t *testing.T) {
	r := rand.New(rand.NewSource(87))
	var all []*page.Store
	for most := 2; most <= 64; most++ {
		s, _ := page.New(most)
		all = append(all, s)
	}
	for n := range 1500 {
		key, put := fmt.Sprintf("k%03d", r.Intn(350)), r.Intn(5) > 0
		var errs []api.Errno
		var gone []bool
		for _, s := range all {
			if put {
				errs = append(errs, s.Put(key, int64(n)))
			} else {
				gone = append(gone, s.Del(key))
			}
		}
		if len(slices.Compact(errs)) > 1 || len(slices.Compact(gone)) > 1 {
			t.Fatal(n, "not the same answers")
		}
	}
	for i, s := range all {
		if !slices.Equal(s.Scan("", ""), all[0].Scan("", "")) || s.Len() != all[0].Len() {
			t.Error(i+2, s.Scan("", ""))
		}
	}
}
