package net_test

import (
	"fmt"
	"math/rand"
	"slices"
	"testing"

	"byroad/api"
	"byroad/mess"
	"byroad/net"
)

// item is a packet of the model: its message, and which bits of it are turned.
type item struct {
	m      mess.Msg
	turned map[int]bool
	waits  int
}

// site is where the packet goes to or comes from.
func (x item) site() int {
	if x.m.From == 0 {
		return x.m.To
	}
	return x.m.From
}

// bytes is the packet's bytes.
func (x item) bytes() string {
	b := mess.Encode(x.m)
	for bit := range x.turned {
		b[bit/8] ^= 1 << (bit % 8)
	}
	return string(b)
}

// model is a net as the chapter's words say it.
type model struct {
	most int
	row  []item
	cut  [4]bool
}

// tells is all that is to be seen of the model.
func (w *model) tells() string {
	s := fmt.Sprint(len(w.row))
	for _, x := range w.row {
		s += fmt.Sprintf(" %x,%d", x.bytes(), x.waits)
	}
	for site, cut := range w.cut {
		if cut {
			s += fmt.Sprint(" cut ", site)
		}
	}
	return s
}

// tells is all that is to be seen of a net.
func tells(n *net.Net) string {
	s := fmt.Sprint(n.Len())
	for i := range n.Len() {
		s += fmt.Sprintf(" %x,%d", n.Packet(i), n.Waits(i))
	}
	for _, site := range n.Parted() {
		s += fmt.Sprint(" cut ", site)
	}
	return s
}

// send is what Send does, and what it answers.
func (w *model) send(l ...mess.Msg) int {
	k := 0
	for _, m := range l {
		x := item{m: m, turned: map[int]bool{}}
		if !mess.May(m) || w.cut[x.site()] || len(w.row) >= w.most {
			continue
		}
		w.row = append(w.row, x)
		k++
	}
	return k
}

// deliver is what Deliver does, and what it answers.
func (w *model) deliver(i int) (mess.Msg, api.Errno) {
	if i < 0 || i >= len(w.row) {
		return mess.Msg{}, api.ErrNone
	}
	x := w.row[i]
	if x.waits > 0 || w.cut[x.site()] {
		return mess.Msg{}, api.ErrBusy
	}
	w.row = slices.Delete(w.row, i, i+1)
	if len(x.turned) > 0 {
		return mess.Msg{}, api.ErrForm
	}
	return x.m, api.OK
}

// befall is what becomes of packet i, and what is answered.
func (w *model) befall(call string, i, x int) api.Errno {
	if i < 0 || i >= len(w.row) {
		return api.ErrNone
	}
	p := &w.row[i]
	switch call {
	case "Drop":
		w.row = slices.Delete(w.row, i, i+1)
	case "Twice":
		if len(w.row) >= w.most {
			return api.ErrFull
		}
		turned := map[int]bool{}
		for bit := range p.turned {
			turned[bit] = true
		}
		w.row = append(w.row, item{m: p.m, turned: turned})
	case "Move":
		if x < 0 || x >= len(w.row) {
			return api.ErrArg
		}
		moved := *p
		w.row = slices.Insert(slices.Delete(w.row, i, i+1), x, moved)
	case "Hold":
		if x < 0 || x > 1000 {
			return api.ErrArg
		}
		p.waits = x
	case "Spoil":
		if x < 0 || x >= 8*len(mess.Encode(p.m)) {
			return api.ErrArg
		}
		if p.turned[x] {
			delete(p.turned, x)
		} else {
			p.turned[x] = true
		}
	}
	return api.OK
}

// befall is what a net answers to the same.
func befall(n *net.Net, call string, i, x int) api.Errno {
	switch call {
	case "Drop":
		return n.Drop(i)
	case "Twice":
		return n.Twice(i)
	case "Move":
		return n.Move(i, x)
	case "Hold":
		return n.Hold(i, x)
	}
	return n.Spoil(i, x)
}

// anyMsg is a message; some may not be.
func anyMsg(r *rand.Rand, g int) mess.Msg {
	switch site := r.Intn(5); r.Intn(3) {
	case 0:
		return drop(g, site)
	case 1:
		return held(g, site)
	default:
		return mess.Msg{Kind: mess.Run, To: site, About: mess.About{G: g, Node: r.Intn(300)}, Low: 1, Ops: []api.Op{{Kind: api.Add, Key: "x", N: int64(r.Intn(1000))}}}
	}
}

// step does one thing with both, and tells what it was, and what both answered.
func (w *model) step(n *net.Net, r *rand.Rand, g int) (string, string, string) {
	i, x := r.Intn(w.most+2)-1, r.Intn(w.most+2)-1
	switch r.Intn(12) {
	case 0, 1, 2:
		var l []mess.Msg
		for range r.Intn(3) {
			l = append(l, anyMsg(r, g))
		}
		return fmt.Sprint("Send ", l), fmt.Sprint(n.Send(l...)), fmt.Sprint(w.send(l...))
	case 3, 4:
		m, e := n.Deliver(i)
		wm, we := w.deliver(i)
		return fmt.Sprint("Deliver ", i), fmt.Sprint(m, e), fmt.Sprint(wm, we)
	case 5:
		for j, x := range w.row {
			w.row[j].waits = max(x.waits-1, 0)
		}
		n.Tick()
		return "Tick", "", ""
	case 6:
		e := api.OK
		if x < 1 || x > 3 {
			e = api.ErrArg
		} else {
			w.cut[x] = i%2 == 0
		}
		if i%2 == 0 {
			return fmt.Sprint("Part ", x), fmt.Sprint(n.Part(x)), fmt.Sprint(e)
		}
		return fmt.Sprint("Heal ", x), fmt.Sprint(n.Heal(x)), fmt.Sprint(e)
	}
	call := []string{"Drop", "Twice", "Move", "Hold", "Spoil"}[r.Intn(5)]
	if r.Intn(5) == 0 {
		x = []int{-1, 999, 1000, 1001, r.Intn(300)}[r.Intn(5)]
	}
	return fmt.Sprint(call, " ", i, " ", x), fmt.Sprint(befall(n, call, i, x)), fmt.Sprint(w.befall(call, i, x))
}

// P20.1 to P20.5: whatever befalls in whatever order, the net stands as the chapter's words say, and answers so.
func TestAsTheWordsSay(t *testing.T) {
	for seed := range int64(300) {
		r := rand.New(rand.NewSource(seed))
		w := &model{most: 1 + r.Intn(8)}
		n := made(t, w.most)
		for i := range 200 {
			name, got, want := w.step(n, r, i+1)
			if got != want || tells(n) != w.tells() {
				t.Fatalf("%d: %d %s: %s, not %s\n%s\n%s", seed, i, name, got, want, tells(n), w.tells())
			}
		}
	}
}

// P20.4: if none was spoilt twice, whatever comes was sent.
func TestNothingFromNowhere(t *testing.T) {
	r := rand.New(rand.NewSource(204))
	n := made(t, 16)
	var sent []mess.Msg
	var spoilt []bool // of each packet that is there
	came, broken := 0, 0
	for g := 1; g < 20000; g++ {
		m := anyMsg(r, g)
		if n.Send(m) == 1 {
			sent, spoilt = append(sent, m), append(spoilt, false)
		}
		if n.Len() == 0 {
			continue
		}
		i := r.Intn(n.Len())
		switch r.Intn(5) {
		case 0:
			if !spoilt[i] {
				n.Spoil(i, r.Intn(8*len(n.Packet(i))))
				spoilt[i] = true
			}
		case 1:
			if n.Twice(i) == api.OK {
				spoilt = append(spoilt, spoilt[i])
			}
		case 2:
			to := r.Intn(n.Len())
			n.Move(i, to)
			was := spoilt[i]
			spoilt = slices.Insert(slices.Delete(spoilt, i, i+1), to, was)
		default:
			m, e := n.Deliver(i)
			switch was := spoilt[i]; {
			case was && e == api.ErrForm:
				broken++
			case !was && e == api.OK && slices.ContainsFunc(sent, func(x mess.Msg) bool { return mess.Same(x, m) }):
				came++
			default:
				t.Fatal(was, m, e)
			}
			spoilt = slices.Delete(spoilt, i, i+1)
		}
	}
	if came < 1000 || broken < 100 {
		t.Error("hardly anything came", came, broken)
	}
}
