package site

import (
	"strings"

	"byroad/api"
	"byroad/fault"
	"byroad/ops"
)

// system is what the system's keys begin with.
const system = "~"

// ticket is behind it in the ticket's key.
const ticket = "t"

// Take takes a ticket in a transaction. All that take one change the same row, so their order is that of their tickets.
func (s *Site) Take(id int) (int64, api.Errno) {
	return s.Do(id, api.Op{Kind: api.Add, Key: system + ticket, N: 1})
}

// Mark says in a transaction that something was done, if that was not said.
func (s *Site) Mark(id int, name string) api.Errno {
	if s.none() {
		return api.ErrNil
	}
	return fault.Code(s.mark(id, name))
}

// Ticket is the last ticket that was taken.
func (s *Site) Ticket() int64 {
	return s.held(system + ticket)
}

// Has tells whether a mark was made.
func (s *Site) Has(name string) bool {
	return isName(name) && s.held(system+name) != 0
}

// Names is the names with that beginning of all marks that there are rows of, rising.
func (s *Site) Names(from string) []string {
	var l []string
	for _, r := range s.Rows() {
		name, of := strings.CutPrefix(r.Key, system)
		if of && isName(name) && strings.HasPrefix(name, from) {
			l = append(l, name)
		}
	}
	return l
}

// mark makes a mark, which was not made yet.
func (s *Site) mark(id int, name string) error {
	if !isName(name) {
		return fault.In(name, fault.New(api.ErrArg))
	}
	n, e := s.Do(id, api.Op{Kind: api.Get, Key: system + name})
	if e != api.OK {
		return fault.In(name, fault.New(e))
	}
	if n != 0 {
		return fault.In(name, fault.New(api.ErrThere))
	}
	_, e = s.Do(id, api.Op{Kind: api.Put, Key: system + name, N: 1})
	return fault.In(name, fault.New(e))
}

// held is what was committed under a key; 0, if nothing was.
func (s *Site) held(key string) int64 {
	for _, r := range s.Rows() {
		if r.Key == key {
			return r.N
		}
	}
	return 0
}

// isName tells whether a mark may have that name.
func isName(s string) bool {
	return ops.Key(s) && len(system+s) <= api.MaxKey && s != ticket
}
