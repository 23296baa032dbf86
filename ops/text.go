package ops

import (
	"strconv"
	"strings"

	"byroad/api"
	"byroad/fault"
)

// words is each kind's word, at the kind's number.
var words = [...]string{api.Get: "get", api.Put: "put", api.Del: "del", api.Add: "add", api.Min: "min", api.Back: "back"}

// Parse is the operations that s is the text of; or the number of the one that is wrong, and its error.
func Parse(s string) ([]api.Op, int, api.Errno) {
	l, err := parse(s)
	if err != nil {
		return nil, fault.Place(err), fault.Code(err)
	}
	return l, 0, api.OK
}

// Print is the text of operations.
func Print(l ...api.Op) string {
	texts := make([]string, len(l))
	for i, op := range l {
		texts[i] = text(op)
	}
	return strings.Join(texts, "; ")
}

// parse is the operations that s is the text of; an error says of which one it is.
func parse(s string) ([]api.Op, error) {
	if strings.Trim(s, " ") == "" {
		return nil, nil
	}
	var l []api.Op
	for i, part := range strings.Split(s, ";") {
		op, err := one(part)
		if err != nil {
			return nil, fault.At(i, err)
		}
		l = append(l, op)
	}
	// Each of them may be asked by now, so check finds nothing but too many, which is told of the first one.
	return l, fault.At(0, check(l))
}

// one is the operation that s is the text of.
func one(s string) (api.Op, error) {
	f := strings.FieldsFunc(s, blank)
	op := api.Op{Kind: kind(word(f, 0)), Key: word(f, 1), N: number(word(f, 2)), Lo: number(word(f, 3))}
	// Each operation has one text alone: whatever was passed over above is seen by it.
	if !asked(op) || text(op) != strings.Join(f, " ") {
		return api.Op{}, fault.In(s, fault.New(api.ErrForm))
	}
	return op, nil
}

// text is the text of an operation; a question mark, if it may not be.
func text(op api.Op) string {
	if !May(op) {
		return "?"
	}
	numbers := ""
	switch op.Kind {
	case api.Min:
		numbers = " " + strconv.FormatInt(op.Lo, 10)
		fallthrough
	case api.Put, api.Add, api.Back:
		numbers = " " + strconv.FormatInt(op.N, 10) + numbers
	}
	return words[op.Kind] + " " + op.Key + numbers
}

// blank tells whether a letter parts words.
func blank(r rune) bool {
	return r == ' '
}

// word is the word at a place; none, if there are fewer.
func word(f []string, i int) string {
	if i < len(f) {
		return f[i]
	}
	return ""
}

// kind is the kind of that word; 0, if it is none's.
func kind(s string) int {
	for k, w := range words {
		if w == s {
			return k
		}
	}
	return 0
}

// number is what s begins to say in digits; something else, if it is no number.
func number(s string) int64 {
	n, _ := strconv.ParseInt(s, 10, 64)
	return n
}
