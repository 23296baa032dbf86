package fault

import (
	"strconv"
	"strings"

	"byroad/api"
)

// kind is what the kinds of faults have in common: two of one kind can be held against one another.
type kind interface {
	comparable
	error
}

// number is the fault of a number. It is a value, so that errors.Is finds two of one number the same.
type number struct{ code api.Errno }

// The other kinds are pointers: errors.Is may hold them against one another whatever they wrap, also what can't be compared.
type (
	at struct {
		link
		place int
	}
	in struct {
		link
		name string
	}
	bound struct {
		link
		limit, got int64
	}
)

// link is what each fault that wraps an error has of it.
type link struct{ err error }

// Unwrap is what is wrapped.
func (l link) Unwrap() error { return l.err }

// says is a fault that wraps an error; own is what it says of that one.
type says interface {
	error
	Unwrap() error
	own() string
}

func (f *at) own() string { return "at " + strconv.Itoa(f.place) }
func (f *in) own() string { return "in " + strconv.Quote(f.name) }
func (f *bound) own() string {
	return "limit " + strconv.FormatInt(f.limit, 10) + ", got " + strconv.FormatInt(f.got, 10)
}

func (f number) Error() string { return "error " + strconv.Itoa(int(f.code)) }
func (f *at) Error() string    { return text(f) }
func (f *in) Error() string    { return text(f) }
func (f *bound) Error() string { return text(f) }

// text is what all faults of a chain say. It is a loop, for if each text were made of the next one's, a deep chain's end would be copied again at each step.
func text(f says) string {
	var b strings.Builder
	for {
		b.WriteString(f.own())
		b.WriteString(": ")
		if inner, ok := f.Unwrap().(says); ok {
			f = inner
			continue
		}
		b.WriteString(last(f.Unwrap()))
		return b.String()
	}
}

// last is the text of a chain's end, which may be an error of another package that panics when it is asked.
func last(err error) (s string) {
	defer func() {
		if recover() != nil {
			s = "an error without a text"
		}
	}()
	return err.Error()
}
