package post_test

import (
	"fmt"
	"math/rand"
	"testing"

	"byroad/api"
	"byroad/mess"
	"byroad/post"
)

// item is a request of the model.
type item struct {
	m    mess.Msg
	last int64 // -1: it was never sent
}

// model is a box as the chapter's words say it: of each G that the test uses one place.
type model struct {
	every int64
	items [6]*item
}

// due is what Due answers.
func (w *model) due(now int64, low int) []mess.Msg {
	var l []mess.Msg
	for _, x := range w.items {
		if x == nil || x.last >= 0 && now < x.last+w.every {
			continue
		}
		x.last = now
		m := x.m
		m.Low = low
		l = append(l, m)
	}
	return l
}

// tells is all that is to be seen of the model; got the same of a box.
func (w *model) tells() string {
	s := ""
	for g, x := range w.items {
		if x != nil {
			s += fmt.Sprint(g, x.m, "; ")
		}
	}
	return s
}

func got(b *post.Box) string {
	s := ""
	for _, g := range b.Open() {
		m, ok := b.Get(g)
		if ok {
			s += fmt.Sprint(g, m, "; ")
		}
	}
	return s
}

// step does something with both, and is what it was, and what both answered.
func (w *model) step(b *post.Box, r *rand.Rand, now int64) (string, string, string) {
	g := 1 + r.Intn(5)
	q := request(requests()[r.Intn(4)], g)
	q.Node, q.To = r.Intn(2), 1+r.Intn(2)
	switch r.Intn(5) {
	case 0, 1:
		if e := b.Put(q, now); e != api.OK {
			return "Put", fmt.Sprint(e), "0"
		}
		w.items[g] = &item{q, -1}
	case 2:
		there := w.items[g] != nil
		w.items[g] = nil
		return "Done", fmt.Sprint(b.Done(g)), fmt.Sprint(there)
	case 3:
		low := 1 + r.Intn(9)
		return fmt.Sprint("Due ", now), fmt.Sprint(b.Due(now, low)), fmt.Sprint(w.due(now, low))
	default:
		re := reply(q, replies()[r.Intn(6)])
		x := w.items[g]
		if x != nil && post.Fit(x.m, re) {
			m, ok := b.Fits(re)
			return fmt.Sprint("Fits ", re), fmt.Sprint(m, ok), fmt.Sprint(x.m, true)
		}
		m, ok := b.Fits(re)
		return fmt.Sprint("Fits ", re), fmt.Sprint(m, ok), fmt.Sprint(mess.Msg{}, false)
	}
	return "", "", ""
}

// P21.1 to P21.3, against the model.
func TestModel(t *testing.T) {
	for seed := range 200 {
		r := rand.New(rand.NewSource(int64(seed)))
		w := &model{every: int64(1 + r.Intn(5))}
		b := made(t, w.every)
		now := int64(0)
		for range 100 {
			now += int64(r.Intn(3))
			what, a, m := w.step(b, r, now)
			if a != m || got(b) != w.tells() {
				t.Fatal(seed, what, a, "not", m, "\n", got(b), "not", w.tells())
			}
		}
	}
}

// P21.4: asked at each tick, a copy is sent at once, and within each every ticks, as long as there is no answer.
func TestAgainAndAgain(t *testing.T) {
	for _, every := range []int64{1, 2, 3, 7} {
		b := made(t, every)
		q := request(mess.Keep, 2)
		puts(t, b, 5, q)
		var sent []int64
		for now := int64(5); now < 40; now++ {
			for range b.Due(now, 1) {
				sent = append(sent, now)
			}
		}
		for i, now := range sent {
			if now != 5+int64(i)*every {
				t.Error(every, sent)
			}
		}
		if n := int64(len(sent)); n != (35+every-1)/every {
			t.Error(every, sent)
		}
	}
}

// P21.5: a reply fits one request at most, and no request fits anything.
func TestOneAtMost(t *testing.T) {
	b := made(t, 3)
	for g := 1; g <= 8; g++ {
		puts(t, b, 0, request(requests()[g%4], g))
	}
	for g := range 10 {
		for _, kind := range requests() {
			q := request(kind, g)
			if m, ok := b.Fits(q); ok {
				t.Error("a request fits", m)
			}
			for _, k := range replies() {
				re := reply(q, k)
				n := 0
				for _, x := range b.Open() {
					m, _ := b.Get(x)
					if post.Fit(m, re) {
						n++
					}
				}
				if _, ok := b.Fits(re); n > 1 || ok != (n == 1) {
					t.Error(re, "fits", n, ok)
				}
			}
		}
	}
}
