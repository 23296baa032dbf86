package flex_test

import (
	"math/rand"
	"regexp"
	"slices"
	"strings"
	"testing"

	"byroad/api"
	"byroad/flex"
	"byroad/ops"
)

// The model reads a text line by line by patterns, and knows all that is wrong with a line.
var (
	subLine  = regexp.MustCompile(`^ *sub +([a-z0-9]{1,8}) +([012]) +(pivot|retry|comp|both) +([^|]*[^| ])? *(?:(\|)(.*))?$`)
	pathLine = regexp.MustCompile(`^ *path(?: +([^ ].*))?$`)
)

// modelOf is what Parse is to answer: the flexible transaction's text, the line, the error.
func modelOf(s string) (string, int, api.Errno) {
	var subs, paths []string
	at := map[string]bool{}
	for n, line := range strings.Split(s, "\n") {
		if strings.ReplaceAll(line, " ", "") == "" {
			continue
		}
		var wrong []api.Errno
		if m := subLine.FindStringSubmatch(line); m != nil {
			text, errs := modelSub(m)
			wrong = errs
			wrong = append(wrong, ifSo(len(paths) > 0, api.ErrForm), ifSo(len(subs) >= 12, api.ErrLong), ifSo(at[m[1]], api.ErrName))
			subs = append(subs, text)
			at[m[1]] = true
		} else if m := pathLine.FindStringSubmatch(line); m != nil {
			names := strings.FieldsFunc(m[1], func(c rune) bool { return c == ' ' })
			wrong = append(wrong, ifSo(len(names) == 0, api.ErrForm), ifSo(len(names) > 8 || len(paths) >= 8, api.ErrLong))
			wrong = append(wrong, ifSo(slices.ContainsFunc(names, func(s string) bool { return !at[s] }), api.ErrName))
			paths = append(paths, "path "+strings.Join(names, " "))
		} else {
			wrong = append(wrong, api.ErrForm)
		}
		wrong = slices.DeleteFunc(wrong, func(e api.Errno) bool { return e == api.OK })
		if len(wrong) > 0 {
			return "", n, slices.Min(wrong) // by their numbers they rise in the chapter's order
		}
	}
	if len(subs) == 0 || len(paths) == 0 {
		return "", 0, api.ErrForm
	}
	return strings.Join(append(subs, paths...), "\n"), 0, api.OK
}

// modelSub is the text of a line of a subtransaction that the pattern has taken apart, and what is wrong with it.
func modelSub(m []string) (string, []api.Errno) {
	l, _, e := ops.Parse(m[4])
	wrong := []api.Errno{e, ifSo(len(l) == 0 && e == api.OK, api.ErrForm)}
	text := "sub " + m[1] + " " + m[2] + " " + m[3] + " " + ops.Print(l...)
	wrong = append(wrong, ifSo((m[5] != "") != (m[3] == "comp" || m[3] == "both"), api.ErrForm))
	if m[5] != "" {
		l, _, e := ops.Parse(m[6])
		wrong = append(wrong, e, ifSo(len(l) == 0 && e == api.OK, api.ErrForm))
		text += " | " + ops.Print(l...)
	}
	return text, wrong
}

// ifSo is an error, if something is so.
func ifSo(so bool, e api.Errno) api.Errno {
	if so {
		return e
	}
	return api.OK
}

// random is any flexible transaction that may be.
func random(r *rand.Rand) flex.Spec {
	all := list(add, back, put, get, api.Op{Kind: api.Min, Key: "a.b_9", N: -3, Lo: -1 << 63}, api.Op{Kind: api.Del, Key: "abcdefghijklmnop"}, api.Op{Kind: api.Add, Key: "0", N: 1<<63 - 1})
	some := func() []api.Op {
		var l []api.Op
		for range 1 + r.Intn(api.MaxOps) {
			l = append(l, all[r.Intn(len(all))])
		}
		return l
	}
	names := []string{"a", "b", "c", "0", "9z", "sub", "path", "pivot", "abcdefgh", "abcdefg", "12345678", "zz", "q"}
	r.Shuffle(len(names), func(i, k int) { names[i], names[k] = names[k], names[i] })
	var p flex.Spec
	for i := range 1 + r.Intn(api.MaxSubs) {
		s := flex.Sub{Name: names[i], Site: r.Intn(3), Type: r.Intn(4), Do: some()}
		if s.Type == flex.Comp || s.Type == flex.Both {
			s.Undo = some()
		}
		p.Subs = append(p.Subs, s)
	}
	for range 1 + r.Intn(api.MaxPath) {
		var path []int
		for range 1 + r.Intn(api.MaxPath) {
			path = append(path, r.Intn(len(p.Subs)))
		}
		p.Paths = append(p.Paths, path)
	}
	return p
}

// held fails the test, if Parse does not answer what the model does; it tells whether s was read.
func held(t *testing.T, s string) bool {
	t.Helper()
	text, line, want := modelOf(s)
	p, at, e := flex.Parse(s)
	if e != want || at != line || flex.Print(p) != text || flex.May(p) != (e == api.OK) {
		t.Fatalf("%q: %v %d %d, not %d %d", s, p, at, e, line, want)
	}
	return e == api.OK
}

// P23.4: what may be is printed, and read again.
func TestTextBack(t *testing.T) {
	r := rand.New(rand.NewSource(23))
	for range 3000 {
		p := random(r)
		s := flex.Print(p)
		if !flex.May(p) || s == "" {
			t.Fatal(p)
		}
		read(t, s, p)
		if !held(t, s) {
			t.Fatal(s)
		}
	}
}

// P23.2: texts in which bits are taken out, put in, or moved, against the model.
func TestParseModel(t *testing.T) {
	r := rand.New(rand.NewSource(25))
	bits := []string{" ", "  ", "\n", "\n", "|", " | ", ";", "sub", "path", "comp", "both", "pivot", "retry", "get x", "0", "1", "3", "a", "b", "\t", "\r", "x", "path a\n", "sub a 0 pivot get x\n", "; get x; get x; get x", " a a a a", "\npath a", "é", "\xff"}
	were := map[api.Errno]int{}
	for range 20000 {
		s := flex.Print(random(r))
		for range 1 + r.Intn(3) {
			from := r.Intn(len(s))
			switch to := min(len(s), from+1+r.Intn(6)); r.Intn(5) {
			case 0:
				s = s[:from] + s[to:]
			case 1, 2:
				s = s[:from] + bits[r.Intn(len(bits))] + s[from:]
			case 3:
				s = s[:from] + bits[r.Intn(len(bits))] + s[to:]
			case 4: // one line once more, somewhere
				l := strings.Split(s, "\n")
				s = strings.Join(slices.Insert(l, r.Intn(len(l)+1), l[r.Intn(len(l))]), "\n")
			}
			s += " "
		}
		held(t, s)
		_, _, e := flex.Parse(s)
		were[e]++
	}
	for _, e := range []api.Errno{api.OK, api.ErrForm, api.ErrLong, api.ErrName} {
		if were[e] < 100 {
			t.Error("too few were answered", e, were)
		}
	}
}

// P1: texts of anything, against the model.
func TestParseAnything(t *testing.T) {
	r := rand.New(rand.NewSource(26))
	bits := []string{" ", " ", " ", " ", "\n", "\n", "|", ";", "sub", "path", "path a", "path b a", "comp", "pivot", "get", "x", "0", "a", "b", "sub a 0 pivot get x\n", "sub b 0 comp get x | get x\n", "\nsub a 1 retry get x", "\npath a", "\x00", "é"}
	n := 0
	for range 200000 {
		var b strings.Builder
		for range r.Intn(14) {
			b.WriteString(bits[r.Intn(len(bits))])
		}
		if held(t, b.String()) {
			n++
		}
	}
	if n < 100 {
		t.Error("too few were read:", n)
	}
}
