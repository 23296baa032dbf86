package flex

import (
	"iter"
	"strconv"
	"strings"

	"byroad/api"
	"byroad/fault"
	"byroad/ops"
)

// The words with which lines begin.
const (
	subWord  = "sub"
	pathWord = "path"
)

// types is each type's word, at the type's number.
var types = [...]string{Pivot: "pivot", Comp: "comp", Retry: "retry", Both: "both"}

// Print is the text of a flexible transaction; nothing, if it may not be.
func Print(p Spec) string {
	if !May(p) {
		return ""
	}
	var l []string
	for _, s := range p.Subs {
		l = append(l, s.line())
	}
	for _, path := range p.Paths {
		l = append(l, p.line(path))
	}
	return strings.Join(l, "\n")
}

// Parse is the flexible transaction that s is the text of; or the number of the first line that is wrong, and its error.
func Parse(s string) (Spec, int, api.Errno) {
	p, err := parse(s)
	if err != nil {
		return Spec{}, fault.Place(err), fault.Code(err)
	}
	return p, 0, api.OK
}

// line is a subtransaction's line.
func (s Sub) line() string {
	l := []string{subWord, s.Name, strconv.Itoa(s.Site), types[s.Type], ops.Print(s.Do...)}
	if s.Undoable() {
		l = append(l, "|", ops.Print(s.Undo...))
	}
	return strings.Join(l, " ")
}

// line is a path's line.
func (p Spec) line(path []int) string {
	l := []string{pathWord}
	for _, at := range path {
		l = append(l, p.Subs[at].Name)
	}
	return strings.Join(l, " ")
}

// parse is the flexible transaction that s is the text of; an error says which line is wrong.
func parse(s string) (Spec, error) {
	var p Spec
	for n, line := range lines(s) {
		if err := p.read(line); err != nil {
			return Spec{}, fault.At(n, err)
		}
	}
	return p, fault.At(0, when(len(p.Subs) == 0 || len(p.Paths) == 0, api.ErrForm))
}

// lines is the lines of a text, with their numbers.
func lines(s string) iter.Seq2[int, string] {
	return func(yield func(int, string) bool) {
		n, from := 0, 0
		for i, c := range s {
			if c != '\n' {
				continue
			}
			if !yield(n, s[from:i]) {
				return
			}
			n, from = n+1, i+1
		}
		yield(n, s[from:])
	}
}

// read reads a line, and puts what it says behind what was said by those ahead of it.
func (p *Spec) read(line string) error {
	var s Sub
	var undo error
	f := words(line)
	head, tail, bar := strings.Cut(line, "|")
	switch first := word(f, 0); {
	case first == subWord && bar:
		s.Undo, undo = operations(tail)
		fallthrough
	case first == subWord:
		do := s.read(words(head))
		return p.addSub(s, do, undo, when(bar != s.Undoable(), api.ErrForm))
	case first == pathWord:
		return p.addPath(f[1:])
	case first == "":
		return nil // it counts for nothing
	}
	return fault.In(line, fault.New(api.ErrForm))
}

// read reads a subtransaction from the words of its line, up to a bar.
func (s *Sub) read(f []string) error {
	var do error
	s.Name, s.Site, s.Type = word(f, 1), site(word(f, 2)), kind(word(f, 3))
	s.Do, do = operations(strings.Join(f[min(4, len(f)):], " "))
	return gravest(when(!named(s.Name) || s.Site < 0 || s.Type < 0, api.ErrForm), do)
}

// addSub puts a subtransaction behind the others; errs is what is wrong with it alone.
func (p *Spec) addSub(s Sub, errs ...error) error {
	errs = append(errs,
		when(len(p.Paths) > 0, api.ErrForm),
		when(len(p.Subs) >= api.MaxSubs, api.ErrLong),
		when(p.place(s.Name) >= 0, api.ErrName))
	err := gravest(errs...)
	if err == nil {
		p.Subs = append(p.Subs, s)
	}
	return fault.In(s.Name, err)
}

// addPath puts a path of subtransactions with these names behind the others.
func (p *Spec) addPath(names []string) error {
	switch {
	case len(names) == 0:
		return fault.New(api.ErrForm)
	case len(p.Paths) >= api.MaxPath, len(names) > api.MaxPath:
		return fault.New(api.ErrLong)
	}
	var path []int
	for _, name := range names {
		at := p.place(name)
		if at < 0 {
			return fault.In(name, fault.New(api.ErrName))
		}
		path = append(path, at)
	}
	p.Paths = append(p.Paths, path)
	return nil
}

// operations is the operations that s is the text of, of which there must be some.
func operations(s string) ([]api.Op, error) {
	l, _, e := ops.Parse(s)
	return l, fault.First(fault.New(e), when(len(l) == 0, api.ErrForm))
}

// gravest is which of the errors of one line is told.
func gravest(errs ...error) error {
	for _, e := range [...]api.Errno{api.ErrForm, api.ErrLong, api.ErrName} {
		for _, err := range errs {
			if fault.Is(err, e) {
				return err
			}
		}
	}
	return nil
}

// when is the fault of a number, if something is wrong.
func when(wrong bool, e api.Errno) error {
	if !wrong {
		return nil
	}
	return fault.New(e)
}

// words is the words of a text, which blanks part.
func words(s string) []string {
	return strings.FieldsFunc(s, func(c rune) bool { return c == ' ' })
}

// word is the word at a place; none, if there are fewer.
func word(f []string, i int) string {
	if i < len(f) {
		return f[i]
	}
	return ""
}

// site is the site whose number the word is; -1, if it is none's.
func site(word string) int {
	for n := range api.Sites {
		if strconv.Itoa(n) == word {
			return n
		}
	}
	return -1
}

// kind is the type whose word it is; -1, if it is none's.
func kind(word string) int {
	for n, w := range types {
		if w == word {
			return n
		}
	}
	return -1
}
