package page

import (
	"slices"

	"byroad/api"
	"byroad/fault"
)

// Put puts a row into its key's page.
func (s *Store) Put(key string, n int64) api.Errno {
	if s == nil {
		return api.ErrNil
	}
	return fault.Code(s.put(api.Row{Key: key, N: n}))
}

// Del takes a key's row away, and tells whether it was there.
func (s *Store) Del(key string) bool {
	if s == nil {
		return false
	}
	i, at, there := s.find(key)
	if !there {
		return false
	}
	s.pages[i] = slices.Delete(s.pages[i], at, at+1)
	s.tidy(i)
	return true
}

// put puts a row into its key's page, and parts the page if it is too full by it.
func (s *Store) put(row api.Row) error {
	if len(row.Key) > api.MaxKey {
		return fault.Bound(api.MaxKey, int64(len(row.Key)), fault.New(api.ErrArg))
	}
	i, at, there := s.find(row.Key)
	switch {
	case there:
		s.pages[i][at].N = row.N
		return nil
	case s.Len() >= api.MaxRows:
		return fault.Bound(api.MaxRows, int64(s.Len())+1, fault.New(api.ErrFull))
	case len(s.pages) == 0:
		s.pages = [][]api.Row{{row}}
		return nil
	}
	s.pages[i] = slices.Insert(s.pages[i], at, row)
	if len(s.pages[i]) > s.most {
		s.part(i)
	}
	return nil
}

// part makes two pages of one. The first one ends where the other begins also in memory: what is put into it later is not written over the other's rows.
func (s *Store) part(i int) {
	p := s.pages[i]
	half := len(p) / 2
	s.pages[i] = p[:half:half]
	s.pages = slices.Insert(s.pages, i+1, p[half:])
}

// tidy sees to a page that a row was taken from: it is gone, if it is empty, and becomes one with a neighbour, if it is too empty.
func (s *Store) tidy(i int) {
	n := len(s.pages[i])
	switch {
	case n == 0:
		s.pages = slices.Delete(s.pages, i, i+1)
	case n >= s.most/2:
	case s.joins(i):
		s.join(i)
	case s.joins(i - 1):
		s.join(i - 1)
	}
}

// joins tells whether there is a page and one behind it, and both may be one.
func (s *Store) joins(i int) bool {
	return i >= 0 && i+1 < len(s.pages) && len(s.pages[i])+len(s.pages[i+1]) <= s.most
}

// join makes one page of a page and the one behind it.
func (s *Store) join(i int) {
	s.pages[i] = slices.Concat(s.pages[i], s.pages[i+1])
	s.pages = slices.Delete(s.pages, i+1, i+2)
}
