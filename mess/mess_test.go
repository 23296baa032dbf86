package mess_test

import (
	"math"
	"slices"
	"strings"
	"testing"

	"byroad/api"
	"byroad/mess"
)

// The greatest numbers of the chapter.
const (
	lastG   = 1 << 20
	lastTry = 1 << 20
	lastLow = 1<<20 + 1
)

// get is an operation that may be asked.
var get = api.Op{Kind: api.Get, Key: "x"}

// kind is a kind of messages, and what it has by the chapter's table.
type kind struct {
	kind int
	name string
	has  string
}

// kinds is the chapter's table.
func kinds() []kind {
	return []kind{
		{mess.Run, "Run", "request try low ops"},
		{mess.Keep, "Keep", "request try low"},
		{mess.Drop, "Drop", "request low"},
		{mess.Undo, "Undo", "request try low ops"},
		{mess.Held, "Held", "reply try ticket told"},
		{mess.Failed, "Failed", "reply try code"},
		{mess.Kept, "Kept", "reply"},
		{mess.Lost, "Lost", "reply try code"},
		{mess.Dropped, "Dropped", "reply"},
		{mess.Undone, "Undone", "reply"},
	}
}

// of tells whether a kind has something.
func (k kind) of(what string) bool {
	return slices.Contains(strings.Fields(k.has), what)
}

// one is a message of a kind that may be, with just what it has.
func (k kind) one() mess.Msg {
	m := mess.Msg{Kind: k.kind, About: mess.About{G: 7, Node: 3}}
	if k.of("request") {
		m.To = 2
	} else {
		m.From = 2
	}
	if k.of("try") {
		m.Try = 4
	}
	if k.of("low") {
		m.Low = 5
	}
	if k.of("code") {
		m.Code = api.ErrGuard
	}
	if k.of("ticket") {
		m.Ticket = 6
	}
	if k.of("told") {
		m.Told = []int64{-1, 0}
	}
	if k.of("ops") {
		m.Ops = []api.Op{get, {Kind: api.Min, Key: "a.b_9", N: -1, Lo: -2}}
	}
	return m
}

// may fails the test, if May does not answer just that, or Encode goes another way.
func may(t *testing.T, what string, m mess.Msg, want bool) {
	t.Helper()
	if got := mess.May(m); got != want {
		t.Errorf("%s: %v: May %v", what, m, got)
	}
	b := mess.Encode(m)
	if (len(b) > 0) != want {
		t.Errorf("%s: %v: Encode %x", what, m, b)
	}
}

// P19.1: the numbers that are the kinds'.
func TestKinds(t *testing.T) {
	for i, n := range []int{1, 2, 3, 4, 11, 12, 13, 14, 15, 16} {
		k := kinds()[i]
		if k.kind != n {
			t.Error(k.name, "is", k.kind, "not", n)
		}
		may(t, k.name, k.one(), true)
	}
	all := []int{math.MinInt, -1, 0, 5, 6, 7, 8, 9, 10, 17, 18, 255, 257, math.MaxInt}
	for _, k := range kinds() {
		for _, n := range all {
			m := k.one()
			m.Kind = n
			may(t, k.name+" of another kind", m, false)
		}
	}
	may(t, "nothing", mess.Msg{}, false)
}

// P19.1: a request goes from 0 to a site, a reply from a site to 0.
func TestMayEnds(t *testing.T) {
	for _, k := range kinds() {
		for _, from := range []int{math.MinInt, -1, 0, 1, 2, 3, 4, math.MaxInt} {
			for _, to := range []int{math.MinInt, -1, 0, 1, 2, 3, 4, math.MaxInt} {
				m := k.one()
				m.From, m.To = from, to
				want := to == 0 && from >= 1 && from <= 3
				if k.of("request") {
					want = from == 0 && to >= 1 && to <= 3
				}
				may(t, k.name, m, want)
			}
		}
	}
}

// P19.1: each number has its bounds in what has it, and is 0 in all else.
func TestMayNumbers(t *testing.T) {
	for _, k := range kinds() {
		for _, x := range []struct {
			name   string
			has    bool
			set    func(*mess.Msg, int)
			lo, hi int
		}{
			{"G", true, func(m *mess.Msg, n int) { m.G = n }, 1, lastG},
			{"Node", true, func(m *mess.Msg, n int) { m.Node = n }, 0, 255},
			{"Try", k.of("try"), func(m *mess.Msg, n int) { m.Try = n }, 0, lastTry},
			{"Low", k.of("low"), func(m *mess.Msg, n int) { m.Low = n }, 1, lastLow},
			{"Code", k.of("code"), func(m *mess.Msg, n int) { m.Code = api.Errno(n) }, 1, 99},
			{"Ticket", k.of("ticket"), func(m *mess.Msg, n int) { m.Ticket = int64(n) }, 0, math.MaxInt64},
		} {
			lo, hi := x.lo, x.hi
			if !x.has {
				lo, hi = 0, 0
			}
			for _, n := range []int{math.MinInt, -1, 0, 1, 2, 99, 100, 255, 256, lastG, lastG + 1, lastG + 2, 1 << 32, math.MaxInt} {
				m := k.one()
				x.set(&m, n)
				may(t, k.name+" "+x.name, m, n >= lo && n <= hi)
			}
		}
	}
}

// P19.1: lists have their bounds in what has them, and are empty in all else.
func TestMayLists(t *testing.T) {
	for _, k := range kinds() {
		for n := range 12 {
			m := k.one()
			m.Told = make([]int64, n)
			may(t, k.name+" Told", m, n == 0 || k.of("told") && n <= api.MaxOps)
			m = k.one()
			m.Ops = make([]api.Op, n)
			for i := range m.Ops {
				m.Ops[i] = get
			}
			may(t, k.name+" Ops", m, n == 0 || k.of("ops") && n <= api.MaxOps)
		}
		m := k.one()
		m.Told, m.Ops = []int64{}, []api.Op{}
		may(t, k.name+" without lists", m, true)
	}
}

// P19.1: whatever a site may tell may be told, and any operations that may be asked; but none else.
func TestMayOps(t *testing.T) {
	good := []api.Op{
		get,
		{Kind: api.Put, Key: "a", N: math.MinInt64},
		{Kind: api.Del, Key: strings.Repeat("z", api.MaxKey)},
		{Kind: api.Add, Key: "0._", N: math.MaxInt64},
		{Kind: api.Min, Key: "m", N: math.MinInt64, Lo: math.MaxInt64},
		{Kind: api.Back, Key: "b", N: -1},
	}
	bad := []api.Op{
		{},
		{Kind: -1, Key: "x"},
		{Kind: 7, Key: "x"},
		{Kind: api.Get, Key: "x", N: 1},
		{Kind: api.Del, Key: "x", N: -1},
		{Kind: api.Put, Key: "x", Lo: 1},
		{Kind: api.Put, Key: ""},
		{Kind: api.Put, Key: "A"},
		{Kind: api.Put, Key: "~t"},
		{Kind: api.Put, Key: strings.Repeat("z", api.MaxKey+1)},
	}
	for _, k := range kinds() {
		m := k.one()
		if k.of("told") {
			m.Told = []int64{math.MinInt64, math.MaxInt64, 0, -1, 1, 2, 3, 4}
			may(t, k.name, m, true)
		}
		if !k.of("ops") {
			continue
		}
		m.Ops = good
		may(t, k.name, m, true)
		for _, op := range bad {
			m.Ops = []api.Op{op}
			may(t, k.name, m, false)
			m.Ops = append(slices.Clone(good), op)
			may(t, k.name, m, false)
		}
	}
}

// P19.2: the chapter's example.
func TestAnswerExample(t *testing.T) {
	m := mess.Msg{Kind: mess.Run, To: 2, About: mess.About{G: 7, Node: 3, Try: 1}, Low: 5, Ops: []api.Op{get}}
	want := mess.Msg{Kind: mess.Kept, From: 2, About: mess.About{G: 7, Node: 3}}
	if a := mess.Answer(m, mess.Kept); !mess.Same(a, want) || !mess.May(a) {
		t.Error(a)
	}
}

// P19.2: an answer has the ends, G, Node, of some kinds the try, and nothing else, whatever message it is to.
func TestAnswer(t *testing.T) {
	full := mess.Msg{Kind: 77, From: -5, To: 9, About: mess.About{G: -7, Node: 300, Try: -2}, Low: 5, Code: 6, Ticket: 7, Told: []int64{8}, Ops: []api.Op{get}}
	asked := []mess.Msg{full, {}}
	for _, k := range kinds() {
		asked = append(asked, k.one())
	}
	for _, m := range asked {
		for n := -2; n < 20; n++ {
			want := mess.Msg{Kind: n, From: m.To, To: m.From, About: mess.About{G: m.G, Node: m.Node}}
			if n == mess.Held || n == mess.Failed || n == mess.Lost {
				want.Try = m.Try
			}
			a := mess.Answer(m, n)
			if !mess.Same(a, want) {
				t.Error(m, n, "is answered", a, "not", want)
			}
			switch {
			case m.From != 0 || m.To != 2: // no request that may be
			case n == mess.Held || n == mess.Kept || n == mess.Dropped || n == mess.Undone:
				may(t, "an answer", a, true)
			case n == mess.Failed || n == mess.Lost:
				may(t, "an answer without a code", a, false)
			}
		}
	}
}

// P19.2: two messages are the same, if all they have is.
func TestSame(t *testing.T) {
	full := func() mess.Msg {
		return mess.Msg{Kind: 1, From: 2, To: 3, About: mess.About{G: 4, Node: 5, Try: 6}, Low: 7, Code: 8, Ticket: 9, Told: []int64{10, 11}, Ops: []api.Op{get, {Kind: 5, Key: "k", N: 12, Lo: 13}}}
	}
	if !mess.Same(full(), full()) || !mess.Same(mess.Msg{}, mess.Msg{}) || mess.Same(full(), mess.Msg{}) {
		t.Error("the same")
	}
	for i, change := range []func(*mess.Msg){
		func(m *mess.Msg) { m.Kind++ },
		func(m *mess.Msg) { m.From++ },
		func(m *mess.Msg) { m.To++ },
		func(m *mess.Msg) { m.G++ },
		func(m *mess.Msg) { m.Node++ },
		func(m *mess.Msg) { m.Try++ },
		func(m *mess.Msg) { m.Low++ },
		func(m *mess.Msg) { m.Code++ },
		func(m *mess.Msg) { m.Ticket++ },
		func(m *mess.Msg) { m.Told[0]++ },
		func(m *mess.Msg) { m.Told[1]++ },
		func(m *mess.Msg) { m.Told = m.Told[:1] },
		func(m *mess.Msg) { m.Told = append(m.Told, 0) },
		func(m *mess.Msg) { m.Told = nil },
		func(m *mess.Msg) { m.Ops[0].Kind++ },
		func(m *mess.Msg) { m.Ops[1].Key += "k" },
		func(m *mess.Msg) { m.Ops[1].N++ },
		func(m *mess.Msg) { m.Ops[1].Lo++ },
		func(m *mess.Msg) { m.Ops = m.Ops[:1] },
		func(m *mess.Msg) { m.Ops = append(m.Ops, api.Op{}) },
		func(m *mess.Msg) { m.Ops = nil },
	} {
		m := full()
		change(&m)
		if mess.Same(m, full()) || mess.Same(full(), m) || !mess.Same(m, m) {
			t.Error(i, m)
		}
	}
	if !mess.Same(mess.Msg{Told: []int64{}, Ops: []api.Op{}}, mess.Msg{}) || !mess.Same(mess.Msg{}, mess.Msg{Told: []int64{}, Ops: []api.Op{}}) {
		t.Error("an empty list is not as none")
	}
}
