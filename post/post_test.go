package post_test

import (
	"math"
	"slices"
	"testing"

	"byroad/api"
	"byroad/mess"
	"byroad/post"
)

// Numbers of the chapters.
const (
	lastG   = 1 << 20
	lastLow = 1<<20 + 1
	maxTime = 1 << 40
)

// requests and replies are the kinds of messages.
func requests() []int { return []int{mess.Run, mess.Keep, mess.Drop, mess.Undo} }
func replies() []int {
	return []int{mess.Held, mess.Failed, mess.Kept, mess.Lost, mess.Dropped, mess.Undone}
}

// request is a request of some kind.
func request(kind, g int) mess.Msg {
	m := mess.Msg{Kind: kind, To: 2, About: mess.About{G: g, Node: 3, Try: 4}, Low: 1}
	switch kind {
	case mess.Drop:
		m.Try = 0
	case mess.Run, mess.Undo:
		m.Ops = []api.Op{{Kind: api.Put, Key: "x", N: 5}, {Kind: api.Get, Key: "y"}}
	}
	return m
}

// reply is a reply of some kind to a request.
func reply(q mess.Msg, kind int) mess.Msg {
	r := mess.Msg{Kind: kind, From: q.To, About: mess.About{G: q.G, Node: q.Node}}
	switch kind {
	case mess.Held:
		r.Try, r.Ticket, r.Told = 4, 1, []int64{5, 6}
	case mess.Failed, mess.Lost:
		r.Try, r.Code = 4, api.ErrGuard
	}
	return r
}

// made is a box of that every.
func made(t *testing.T, every int64) *post.Box {
	t.Helper()
	b, e := post.New(every)
	if e != api.OK || b == nil {
		t.Fatal("New", every, b, e)
	}
	return b
}

// puts puts requests into a box.
func puts(t *testing.T, b *post.Box, now int64, l ...mess.Msg) {
	t.Helper()
	for _, m := range l {
		if e := b.Put(m, now); e != api.OK {
			t.Fatal("Put", m, now, e)
		}
	}
}

// due fails the test, if not just these are due, each with that low.
func due(t *testing.T, b *post.Box, now int64, low int, want ...mess.Msg) {
	t.Helper()
	got := b.Due(now, low)
	if !slices.EqualFunc(got, want, func(a, m mess.Msg) bool { m.Low = low; return mess.Same(a, m) }) {
		t.Fatal("Due", now, low, got, "not", want)
	}
}

// stands fails the test, if a box has not just these requests.
func stands(t *testing.T, b *post.Box, want ...mess.Msg) {
	t.Helper()
	var open []int
	for _, m := range want {
		open = append(open, m.G)
		if got, ok := b.Get(m.G); !ok || !mess.Same(got, m) {
			t.Fatal("Get", m.G, got, ok, "not", m)
		}
	}
	if got := b.Open(); !slices.Equal(got, open) {
		t.Fatal("Open", got, "not", open)
	}
}

// none fails the test, if there is a request of g.
func none(t *testing.T, b *post.Box, g int) {
	t.Helper()
	if m, ok := b.Get(g); ok || !mess.Same(m, mess.Msg{}) {
		t.Fatal("Get", g, m, ok)
	}
	if b.Done(g) || slices.Contains(b.Open(), g) {
		t.Fatal("a request of", g)
	}
}

// P21: of a nil box, and of one that New has not made.
func TestNil(t *testing.T) {
	for _, b := range []*post.Box{nil, {}} {
		for _, m := range []mess.Msg{{}, request(mess.Run, 1), reply(request(mess.Run, 1), mess.Kept)} {
			if e := b.Put(m, 0); e != api.ErrNil {
				t.Error("Put", e)
			}
			if e := b.Put(m, -1); e != api.ErrNil {
				t.Error("Put at no time", e)
			}
			if q, ok := b.Fits(m); ok || !mess.Same(q, mess.Msg{}) {
				t.Error("Fits", q, ok)
			}
		}
		for _, g := range []int{math.MinInt, -1, 0, 1, math.MaxInt} {
			none(t, b, g)
			if len(b.Due(int64(g), g)) != 0 || len(b.Due(0, 1)) != 0 {
				t.Error("Due", g)
			}
		}
	}
}

// P21.1
func TestNew(t *testing.T) {
	for _, every := range []int64{math.MinInt64, -1, 0, 1001, math.MaxInt64} {
		if b, e := post.New(every); b != nil || e != api.ErrArg {
			t.Error(every, b, e)
		}
	}
	for _, every := range []int64{1, 2, 999, 1000} {
		b := made(t, every)
		stands(t, b)
		due(t, b, 0, 1)
		q := request(mess.Run, 1)
		puts(t, b, 0, q)
		due(t, b, 7, 1, q)
		due(t, b, 7, 1)
		due(t, b, 7+every-1, 1)
		due(t, b, 7+every, 1, q)
	}
}

// The chapter's example.
func TestExample(t *testing.T) {
	b := made(t, 3)
	q := mess.Msg{Kind: mess.Run, To: 1, About: mess.About{G: 7, Try: 1}, Low: 1}
	puts(t, b, 0, q)
	due(t, b, 0, 1, q)
	due(t, b, 2, 1)
	due(t, b, 3, 1, q)
	r := mess.Answer(q, mess.Failed)
	r.Code, r.Try = api.ErrLate, 2
	if m, ok := b.Fits(r); ok {
		t.Error("of another try:", m)
	}
	if m, ok := b.Fits(mess.Answer(q, mess.Kept)); !ok || !mess.Same(m, q) {
		t.Error("Kept:", m, ok)
	}
}

// P21.1: which kinds fit which, of the same try and of another one.
func TestFitKinds(t *testing.T) {
	same := map[int][]int{
		mess.Run:  {mess.Held, mess.Failed, mess.Kept, mess.Dropped},
		mess.Keep: {mess.Lost, mess.Kept, mess.Dropped},
		mess.Drop: {mess.Dropped, mess.Kept},
		mess.Undo: {mess.Undone},
	}
	for _, kind := range requests() {
		q := request(kind, 7)
		for _, k := range replies() {
			r := reply(q, k)
			want := slices.Contains(same[kind], k)
			if post.Fit(q, r) != want {
				t.Error(kind, k, "is not", want)
			}
			if r.Try == 0 {
				continue // it says nothing of a try
			}
			for _, try := range []int{0, 3, 5, 1 << 20} {
				r.Try = try
				if post.Fit(q, r) {
					t.Error(kind, k, "of the try", try)
				}
			}
		}
	}
}

// P21.1: a try of 0 is one as any other.
func TestFitTryZero(t *testing.T) {
	q := request(mess.Run, 7)
	q.Try = 0
	r := reply(q, mess.Failed)
	if post.Fit(q, r) {
		t.Error("try 4 fits 0")
	}
	r.Try = 0
	if !post.Fit(q, r) {
		t.Error("try 0 does not fit 0")
	}
}

// P21.1: of one G and Node, and from where the request went to.
func TestFitAbout(t *testing.T) {
	for _, kind := range requests() {
		for _, k := range replies() {
			q := request(kind, 7)
			if !post.Fit(q, reply(q, k)) {
				continue
			}
			for i, change := range []func(r *mess.Msg){
				func(r *mess.Msg) { r.G = 6 },
				func(r *mess.Msg) { r.G = 8 },
				func(r *mess.Msg) { r.Node = 2 },
				func(r *mess.Msg) { r.Node = 0 },
				func(r *mess.Msg) { r.From = 1 },
				func(r *mess.Msg) { r.From = 3 },
			} {
				r := reply(q, k)
				change(&r)
				if !mess.May(r) || post.Fit(q, r) {
					t.Error(kind, k, i, r)
				}
			}
		}
	}
}

// P21.1: both may be.
func TestFitMay(t *testing.T) {
	for _, kind := range requests() {
		for _, k := range replies() {
			q := request(kind, 7)
			if !post.Fit(q, reply(q, k)) {
				continue
			}
			for i, change := range []func(q, r *mess.Msg){
				func(q, r *mess.Msg) { q.Low = 0 },
				func(q, r *mess.Msg) { q.Low = lastLow + 1 },
				func(q, r *mess.Msg) { q.Code = 1 },
				func(q, r *mess.Msg) { q.From = 1 },
				func(q, r *mess.Msg) { q.Told = []int64{1} },
				func(q, r *mess.Msg) { q.Kind = 0 },
				func(q, r *mess.Msg) { r.Low = 1 },
				func(q, r *mess.Msg) { r.To = 1 },
				func(q, r *mess.Msg) { r.Ops = []api.Op{{Kind: api.Get, Key: "x"}} },
				func(q, r *mess.Msg) { r.Kind = 99 },
				func(q, r *mess.Msg) { r.Code = 100 },
				func(q, r *mess.Msg) { q.G, r.G = 0, 0 },
				func(q, r *mess.Msg) { q.G, r.G = lastG+1, lastG+1 },
				func(q, r *mess.Msg) { q.Node, r.Node = 256, 256 },
				func(q, r *mess.Msg) { q.To, r.From = 4, 4 },
				func(q, r *mess.Msg) { q.To, r.From = 0, 0 },
			} {
				r := reply(q, k)
				p := q
				change(&p, &r)
				if post.Fit(p, r) {
					t.Error(kind, k, i, p, r)
				}
			}
		}
	}
}

// P21.5: no request fits anything, and nothing fits a reply.
func TestFitWrongWay(t *testing.T) {
	all := []mess.Msg{{}}
	for _, kind := range requests() {
		q := request(kind, 7)
		all = append(all, q)
		for _, k := range replies() {
			all = append(all, reply(q, k))
		}
	}
	for _, q := range all {
		for _, r := range all {
			if post.Fit(q, r) && (!slices.Contains(requests(), q.Kind) || !slices.Contains(replies(), r.Kind)) {
				t.Error(q, r)
			}
		}
	}
}

// P21.2: what may not be put, and that it changes nothing.
func TestPutRefused(t *testing.T) {
	b := made(t, 3)
	q := request(mess.Run, 7)
	puts(t, b, 0, q)
	due(t, b, 0, 1, q)
	other := request(mess.Undo, 7)
	var wrong []mess.Msg
	for _, k := range replies() {
		wrong = append(wrong, reply(q, k))
	}
	for _, change := range []func(m *mess.Msg){
		func(m *mess.Msg) { m.Kind = 0 },
		func(m *mess.Msg) { m.Kind = 5 },
		func(m *mess.Msg) { m.Low = 0 },
		func(m *mess.Msg) { m.To = 0 },
		func(m *mess.Msg) { m.To = 4 },
		func(m *mess.Msg) { m.From = 1 },
		func(m *mess.Msg) { m.Node = 256 },
		func(m *mess.Msg) { m.Ops = make([]api.Op, 9) },
		func(m *mess.Msg) { m.Ops = []api.Op{{Kind: api.Get, Key: "~t"}} },
		func(m *mess.Msg) { m.Told = []int64{1} },
	} {
		m := request(mess.Undo, 7)
		change(&m)
		wrong = append(wrong, m)
	}
	for _, m := range append(wrong, mess.Msg{}) {
		if e := b.Put(m, 1); e != api.ErrArg {
			t.Error("Put", m, e)
		}
	}
	for _, now := range []int64{math.MinInt64, -1, maxTime + 1, math.MaxInt64} {
		if e := b.Put(other, now); e != api.ErrArg {
			t.Error("Put at", now, e)
		}
	}
	stands(t, b, q)
	due(t, b, 2, 1)
	puts(t, b, maxTime, other)
	stands(t, b, other)
	puts(t, b, 0, q)
	stands(t, b, q)
}

// P21.2: one request of each G; another one in its place was never sent.
func TestPutInPlace(t *testing.T) {
	b := made(t, 5)
	run, keep, drop := request(mess.Run, 7), request(mess.Keep, 7), request(mess.Drop, 7)
	puts(t, b, 0, run)
	due(t, b, 1, 1, run)
	puts(t, b, 1, keep)
	stands(t, b, keep)
	due(t, b, 1, 1, keep)
	due(t, b, 2, 1)
	puts(t, b, 2, keep)
	due(t, b, 2, 1, keep)
	puts(t, b, 3, run, drop)
	stands(t, b, drop)
	due(t, b, 2, 1, drop)
}

// P21.2: Done.
func TestDone(t *testing.T) {
	b := made(t, 5)
	one, two := request(mess.Run, 1), request(mess.Run, 2)
	puts(t, b, 0, one, two)
	for _, g := range []int{math.MinInt, -1, 0, 3, math.MaxInt} {
		none(t, b, g)
	}
	due(t, b, 0, 1, one, two)
	if !b.Done(1) {
		t.Error("Done")
	}
	none(t, b, 1)
	stands(t, b, two)
	due(t, b, 5, 1, two)
	puts(t, b, 5, one)
	due(t, b, 6, 1, one)
	if !b.Done(2) || !b.Done(1) {
		t.Error("Done")
	}
	stands(t, b)
	due(t, b, 100, 1)
}

// P21.3: what is not asked at a time, or with a low, is not due, nor sent.
func TestDueRefused(t *testing.T) {
	b := made(t, 3)
	q := request(mess.Drop, 7)
	puts(t, b, 0, q)
	for _, now := range []int64{math.MinInt64, -1, maxTime + 1, math.MaxInt64} {
		due(t, b, now, 1)
	}
	for _, low := range []int{math.MinInt, -1, 0, lastLow + 1, math.MaxInt} {
		due(t, b, 0, low)
	}
	due(t, b, 0, 1, q)
	due(t, b, 3, 0)
	due(t, b, 3, lastLow, q)
	due(t, b, maxTime, lastLow, q)
	due(t, b, maxTime, 1)
}

// P21.3: each with that low, by rising G; the request stays as it was put.
func TestDueLow(t *testing.T) {
	b := made(t, 1)
	var l []mess.Msg
	for _, g := range []int{lastG, 3, 1, 900, 2} {
		q := request(requests()[g%4], g)
		q.Low = 1 + g%3
		puts(t, b, 0, q)
		l = append(l, q)
	}
	slices.SortFunc(l, func(x, y mess.Msg) int { return x.G - y.G })
	due(t, b, 0, 17, l...)
	stands(t, b, l...)
	due(t, b, 1, lastLow, l...)
	for _, m := range b.Due(2, 9) {
		if !mess.May(m) || m.Low != 9 {
			t.Error(m)
		}
	}
	stands(t, b, l...)
}

// P21.3: each one's time counts alone; a time that goes back makes nothing due.
func TestDueEachAlone(t *testing.T) {
	b := made(t, 4)
	one, two := request(mess.Run, 1), request(mess.Keep, 2)
	puts(t, b, 0, one)
	due(t, b, 10, 1, one)
	puts(t, b, 10, two)
	due(t, b, 12, 1, two)
	due(t, b, 13, 1)
	due(t, b, 14, 1, one)
	due(t, b, 16, 1, two)
	due(t, b, 3, 1)
	due(t, b, 0, 1)
	due(t, b, 17, 1)
	due(t, b, 20, 1, one, two)
}

// P21.3
func TestFits(t *testing.T) {
	b := made(t, 4)
	one, two := request(mess.Run, 1), request(mess.Drop, 2)
	puts(t, b, 0, one, two)
	for _, c := range []struct {
		r    mess.Msg
		want mess.Msg
		ok   bool
	}{
		{reply(one, mess.Held), one, true},
		{reply(one, mess.Kept), one, true},
		{reply(one, mess.Undone), mess.Msg{}, false},
		{reply(two, mess.Dropped), two, true},
		{reply(two, mess.Held), mess.Msg{}, false},
		{reply(request(mess.Run, 3), mess.Held), mess.Msg{}, false},
		{one, mess.Msg{}, false},
		{mess.Msg{}, mess.Msg{}, false},
		{mess.Msg{About: mess.About{G: 1, Node: 3}}, mess.Msg{}, false},
	} {
		if q, ok := b.Fits(c.r); ok != c.ok || !mess.Same(q, c.want) {
			t.Error(c.r, q, ok)
		}
	}
	stands(t, b, one, two)
	due(t, b, 0, 1, one, two)
}

// Rules 4 and 5: what is handed in is not kept, what is answered shares nothing.
func TestLists(t *testing.T) {
	b := made(t, 1)
	q := request(mess.Run, 1)
	puts(t, b, 0, q)
	want := request(mess.Run, 1)
	q.Ops[0].N = 99
	stands(t, b, want)
	for range 2 {
		m, _ := b.Get(1)
		m.Ops[0].Key = "z"
		m.Ops = append(m.Ops[:1], api.Op{Kind: api.Get, Key: "w"})
		stands(t, b, want)
		m, _ = b.Fits(reply(want, mess.Kept))
		m.Ops[1].Key = "z"
		stands(t, b, want)
	}
	for now := range int64(3) {
		l := b.Due(now, 1)
		l[0].Ops[0].Key = "z"
		l[0].G = 2
		stands(t, b, want)
	}
	due(t, b, 3, 1, want)
	b.Open()[0] = 5
	stands(t, b, want)
}
