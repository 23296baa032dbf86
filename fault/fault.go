// Package fault is layer 1: errors that wrap one another, and what such an error tells.
package fault

import (
	"errors"

	"byroad/api"
)

// New is the fault of a number; nil, if the number is OK.
func New(e api.Errno) error {
	if e == api.OK {
		return nil
	}
	return number{e}
}

// At wraps err and says a place; nil, if err is nil.
func At(place int, err error) error {
	if err == nil {
		return nil
	}
	return &at{link{err}, place}
}

// In wraps err and says a name; nil, if err is nil.
func In(name string, err error) error {
	if err == nil {
		return nil
	}
	return &in{link{err}, name}
}

// Bound wraps err and says a limit and what was there; nil, if err is nil.
func Bound(limit, got int64, err error) error {
	if err == nil {
		return nil
	}
	return &bound{link{err}, limit, got}
}

// First is the first of errs that is not nil.
func First(errs ...error) error {
	for _, err := range errs {
		if err != nil {
			return err
		}
	}
	return nil
}

// Code is the number in the chain of err: OK of nil, ErrArg of a chain without one.
func Code(err error) api.Errno {
	if err == nil {
		return api.OK
	}
	if n, ok := find[number](err); ok {
		return n.code
	}
	return api.ErrArg
}

// Place is the outermost place that the chain of err says; -1, if there is none.
func Place(err error) int {
	if p, ok := find[*at](err); ok {
		return p.place
	}
	return -1
}

// Trail is the names that the chain of err says, the outermost first.
func Trail(err error) []string {
	if !ends(err) {
		return nil
	}
	var names []string
	for n, ok := ask[*in](err); ok; n, ok = ask[*in](n.err) {
		names = append(names, n.name)
	}
	return names
}

// Limit is the outermost limit that the chain of err says, and what was there.
func Limit(err error) (int64, int64, bool) {
	if b, ok := find[*bound](err); ok {
		return b.limit, b.got, true
	}
	return 0, 0, false
}

// Is tells whether err is not nil and its Code is e.
func Is(err error, e api.Errno) bool {
	if n, ok := find[number](err); ok {
		return errors.Is(n, New(e))
	}
	return err != nil && e == api.ErrArg
}

// Depth is how many errors the chain of err has.
func Depth(err error) int {
	n := 0
	for err != nil && n < tooDeep {
		n++
		err = next(err)
	}
	return n
}
