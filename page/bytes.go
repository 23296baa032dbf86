package page

import (
	"byroad/api"
	"byroad/fault"
	"byroad/octet"
)

// Bytes is the bytes of a store.
func (s *Store) Bytes() []byte {
	if s == nil {
		return nil
	}
	b := octet.Nat(uint64(len(s.pages)))
	for _, p := range s.pages {
		b = append(b, octet.Nat(uint64(len(p)))...)
		for _, row := range p {
			b = append(b, octet.Seq(octet.Str(row.Key), octet.Num(row.N))...)
		}
	}
	return b
}

// Load is the store of these bytes, whose pages have so many rows at most.
func Load(b []byte, most int) (*Store, api.Errno) {
	s, err := load(octet.Of(b), most)
	return s, fault.Code(err)
}

// load reads a store page by page; an error says which page may not be.
func load(r *octet.In, most int) (*Store, error) {
	s, err := empty(most)
	if err != nil {
		return nil, err
	}
	for i := range r.Nat() {
		p, err := s.next(r)
		if err != nil {
			return nil, fault.At(int(i), err)
		}
		s.pages = append(s.pages, p)
	}
	if r.End() != api.OK {
		return nil, fault.New(api.ErrForm)
	}
	return s, nil
}

// next reads the page that stands behind those that were read.
func (s *Store) next(r *octet.In) ([]api.Row, error) {
	n := r.Nat()
	if n < 1 || n > uint64(min(s.most, api.MaxRows-s.Len())) {
		return nil, fault.Bound(int64(s.most), int64(n), fault.New(api.ErrForm))
	}
	var p []api.Row
	for range n {
		row := api.Row{Key: r.Str(api.MaxKey), N: r.Num()}
		if r.Err() != api.OK || !s.rises(p, row.Key) {
			return nil, fault.In(row.Key, fault.New(api.ErrForm))
		}
		p = append(p, row)
	}
	return p, nil
}

// rises tells whether a key is above all those of a page and of the pages ahead of it.
func (s *Store) rises(p []api.Row, key string) bool {
	if len(p) == 0 && len(s.pages) > 0 {
		p = s.pages[len(s.pages)-1]
	}
	return len(p) == 0 || p[len(p)-1].Key < key
}
