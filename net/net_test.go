package net_test

import (
	"bytes"
	"math"
	"slices"
	"testing"

	"byroad/api"
	"byroad/mess"
	"byroad/net"
)

// drop is a request of g to a site.
func drop(g, site int) mess.Msg {
	return mess.Msg{Kind: mess.Drop, To: site, About: mess.About{G: g}, Low: 1}
}

// held is a reply of g from a site.
func held(g, site int) mess.Msg {
	return mess.Msg{Kind: mess.Held, From: site, About: mess.About{G: g, Node: 2, Try: 3}, Ticket: 4, Told: []int64{5, -6}}
}

// made is a net of so many packets at most, on which messages were sent, all of which must be under way.
func made(t *testing.T, most int, l ...mess.Msg) *net.Net {
	t.Helper()
	n, e := net.New(most)
	if e != api.OK || n == nil {
		t.Fatal("New", e)
	}
	sent(t, n, len(l), l...)
	return n
}

// sent fails the test, if not just so many messages are not lost.
func sent(t *testing.T, n *net.Net, want int, l ...mess.Msg) {
	t.Helper()
	if got := n.Send(l...); got != want {
		t.Fatal("Send", l, got, "not", want)
	}
}

// is fails the test, if a call does not answer just that.
func is(t *testing.T, what string, got, want api.Errno) {
	t.Helper()
	if got != want {
		t.Error(what, "answers", got, "not", want)
	}
}

// stands fails the test, if the packets are not just those of these messages.
func stands(t *testing.T, what string, n *net.Net, want ...mess.Msg) {
	t.Helper()
	var bs [][]byte
	for _, m := range want {
		bs = append(bs, mess.Encode(m))
	}
	if got := row(n); !slices.EqualFunc(got, bs, bytes.Equal) || n.Len() != len(want) {
		t.Fatalf("%s: %x not %x", what, got, bs)
	}
}

// row is the bytes of all packets.
func row(n *net.Net) [][]byte {
	var l [][]byte
	for i := range n.Len() {
		l = append(l, n.Packet(i))
	}
	return l
}

// waits fails the test, if the packets do not wait just so many ticks.
func waits(t *testing.T, what string, n *net.Net, want ...int) {
	t.Helper()
	var l []int
	for i := range n.Len() {
		l = append(l, n.Waits(i))
	}
	if !slices.Equal(l, want) {
		t.Fatal(what, l, "not", want)
	}
}

// comes fails the test, if packet i does not come as just that message.
func comes(t *testing.T, n *net.Net, i int, want mess.Msg) {
	t.Helper()
	if m, e := n.Deliver(i); e != api.OK || !mess.Same(m, want) {
		t.Fatal("Deliver", i, m, e, "not", want)
	}
}

// stays fails the test, if packet i comes, or if anything is answered but that error.
func stays(t *testing.T, n *net.Net, i int, want api.Errno) {
	t.Helper()
	before := row(n)
	if m, e := n.Deliver(i); e != want || !mess.Same(m, mess.Msg{}) {
		t.Fatal("Deliver", i, m, e, "not", want)
	}
	if !slices.EqualFunc(row(n), before, bytes.Equal) {
		t.Fatal("Deliver", i, "is refused and changes the packets")
	}
}

// P20: of a nil net, and of one that New has not made.
func TestNil(t *testing.T) {
	for _, n := range []*net.Net{nil, {}} {
		for _, i := range []int{-1, 0, 1, 5000, math.MinInt, math.MaxInt} {
			stays(t, n, i, api.ErrNil)
			is(t, "Drop", n.Drop(i), api.ErrNil)
			is(t, "Twice", n.Twice(i), api.ErrNil)
			is(t, "Move", n.Move(i, i), api.ErrNil)
			is(t, "Hold", n.Hold(i, i), api.ErrNil)
			is(t, "Spoil", n.Spoil(i, i), api.ErrNil)
			is(t, "Part", n.Part(i), api.ErrNil)
			is(t, "Heal", n.Heal(i), api.ErrNil)
			if n.Waits(i) != 0 || len(n.Packet(i)) != 0 {
				t.Error("a packet", i)
			}
		}
		n.Tick()
		if n.Send() != 0 || n.Send(drop(1, 1), held(2, 2), mess.Msg{}) != 0 || n.Len() != 0 || len(n.Parted()) != 0 {
			t.Error("not nothing")
		}
	}
}

// P20.1
func TestNew(t *testing.T) {
	for _, most := range []int{math.MinInt, -1, 0, 1025, math.MaxInt} {
		if n, e := net.New(most); n != nil || e != api.ErrArg {
			t.Error(most, n, e)
		}
	}
	for _, most := range []int{1, 2, 1023, 1024} {
		n := made(t, most)
		stands(t, "new", n)
		if len(n.Parted()) != 0 {
			t.Error(n.Parted())
		}
		var l []mess.Msg
		for i := range most + 3 {
			l = append(l, drop(1+i, 1+i%3))
		}
		sent(t, n, most, l...)
		stands(t, "full", n, l[:most]...)
	}
}

// The chapter's example.
func TestExample(t *testing.T) {
	a, b := drop(1, 1), held(2, 2)
	n := made(t, 10, a, b)
	is(t, "Twice", n.Twice(0), api.OK)
	is(t, "Move", n.Move(2, 0), api.OK)
	is(t, "Drop", n.Drop(1), api.OK)
	stands(t, "example", n, a, b)
	is(t, "Hold", n.Hold(0, 2), api.OK)
	stays(t, n, 0, api.ErrBusy)
	n.Tick()
	stays(t, n, 0, api.ErrBusy)
	n.Tick()
	comes(t, n, 0, a)
	stands(t, "behind", n, b)
}

// P20.1: what is lost is lost alone; the others stand in their order.
func TestSend(t *testing.T) {
	n := made(t, 4)
	sent(t, n, 0)
	bad := drop(9, 1)
	bad.Ticket = 1
	sent(t, n, 2, mess.Msg{}, drop(1, 3), bad, held(2, 1), drop(3, 4), mess.Msg{Kind: 99, To: 1, About: mess.About{G: 1}})
	stands(t, "some may not be", n, drop(1, 3), held(2, 1))
	is(t, "Part", n.Part(3), api.OK)
	sent(t, n, 1, drop(4, 3), held(5, 3), drop(6, 2))
	stands(t, "one is cut off", n, drop(1, 3), held(2, 1), drop(6, 2))
	sent(t, n, 1, held(7, 3), bad, held(8, 2), drop(9, 1))
	stands(t, "full", n, drop(1, 3), held(2, 1), drop(6, 2), held(8, 2))
	waits(t, "none waits", n, 0, 0, 0, 0)
	sent(t, n, 0, drop(10, 1))
	is(t, "Drop", n.Drop(1), api.OK)
	sent(t, n, 1, drop(10, 1), drop(11, 1))
	stands(t, "room again", n, drop(1, 3), drop(6, 2), held(8, 2), drop(10, 1))
}

// P20.1, rule 5: what was sent is not changed by what its lists hold later.
func TestSendKeepsNothing(t *testing.T) {
	run := mess.Msg{Kind: mess.Run, To: 1, About: mess.About{G: 1}, Low: 1, Ops: []api.Op{{Kind: api.Put, Key: "x", N: 5}}}
	reply := held(2, 2)
	l := []mess.Msg{run, reply}
	n := made(t, 4, l...)
	run.Ops[0].N = 6
	reply.Told[0] = 7
	clear(l)
	m, e := n.Deliver(0)
	if e != api.OK || m.Ops[0].N != 5 {
		t.Error(m, e)
	}
	comes(t, n, 0, held(2, 2))
}

// P20.2: what comes is gone, from whichever place.
func TestDeliver(t *testing.T) {
	l := []mess.Msg{drop(1, 1), held(2, 2), drop(3, 3), held(4, 1)}
	for i := range l {
		n := made(t, 4, l...)
		comes(t, n, i, l[i])
		stands(t, "behind", n, slices.Delete(slices.Clone(l), i, i+1)...)
	}
	n := made(t, 4, l...)
	for _, m := range l {
		comes(t, n, 0, m)
	}
	stays(t, n, 0, api.ErrNone)
}

// P20.2: a packet of a site that is cut off stays, whichever way it goes, though it was sent ahead of that.
func TestDeliverParted(t *testing.T) {
	for site := 1; site <= 3; site++ {
		n := made(t, 6, drop(1, 1), held(2, 1), drop(3, 2), held(4, 2), drop(5, 3), held(6, 3))
		is(t, "Part", n.Part(site), api.OK)
		for i := 5; i >= 0; i-- {
			if i/2 == site-1 {
				stays(t, n, i, api.ErrBusy)
			} else if _, e := n.Deliver(i); e != api.OK {
				t.Error(site, i, e)
			}
		}
		is(t, "Hold", n.Hold(0, 1), api.OK)
		is(t, "Heal", n.Heal(site), api.OK)
		stays(t, n, 0, api.ErrBusy)
		n.Tick()
		comes(t, n, 0, drop(2*site-1, site))
		comes(t, n, 0, held(2*site, site))
	}
}

// P20.2: places at which there is no packet, ahead of all other errors.
func TestNone(t *testing.T) {
	n := made(t, 2, drop(1, 1), held(2, 2))
	n.Hold(1, 3)
	n.Part(1)
	for _, i := range []int{math.MinInt, -2, -1, 2, 3, 1024, math.MaxInt} {
		stays(t, n, i, api.ErrNone)
		is(t, "Drop", n.Drop(i), api.ErrNone)
		is(t, "Twice", n.Twice(i), api.ErrNone)
		for _, x := range []int{-1, 0, 1, 2, i, 1001, math.MinInt, math.MaxInt} {
			is(t, "Move", n.Move(i, x), api.ErrNone)
			is(t, "Hold", n.Hold(i, x), api.ErrNone)
			is(t, "Spoil", n.Spoil(i, x), api.ErrNone)
		}
		if n.Waits(i) != 0 || len(n.Packet(i)) != 0 {
			t.Error("a packet", i)
		}
	}
	stands(t, "behind", n, drop(1, 1), held(2, 2))
	waits(t, "behind", n, 0, 3)
	is(t, "Drop", n.Drop(0), api.OK)
	is(t, "Drop", n.Drop(0), api.OK)
	is(t, "Drop of none", n.Drop(0), api.ErrNone)
}

// P20.2: a packet is lost, from whichever place, though it waits, or its site is cut off.
func TestDrop(t *testing.T) {
	l := []mess.Msg{drop(1, 1), held(2, 2), drop(3, 3)}
	for i := range l {
		n := made(t, 3, l...)
		n.Hold(i, 5)
		n.Part(i + 1)
		is(t, "Drop", n.Drop(i), api.OK)
		stands(t, "behind", n, slices.Delete(slices.Clone(l), i, i+1)...)
		waits(t, "behind", n, 0, 0)
	}
}

// P20.2: a packet's double does not wait, is of the same site, and has bytes of its own.
func TestTwice(t *testing.T) {
	a, b := drop(1, 1), held(2, 2)
	n := made(t, 4, a, b)
	n.Hold(0, 7)
	n.Part(1)
	is(t, "Twice", n.Twice(0), api.OK)
	stands(t, "twice", n, a, b, a)
	waits(t, "twice", n, 7, 0, 0)
	stays(t, n, 2, api.ErrBusy)
	n.Heal(1)
	is(t, "Spoil", n.Spoil(0, 40), api.OK)
	is(t, "Twice of a spoilt one", n.Twice(0), api.OK)
	is(t, "full", n.Twice(1), api.ErrFull)
	waits(t, "full", n, 7, 0, 0, 0)
	is(t, "Spoil", n.Spoil(3, 40), api.OK)
	comes(t, n, 3, a)
	comes(t, n, 2, a)
	is(t, "room again", n.Twice(1), api.OK)
	comes(t, n, 2, b)
	comes(t, n, 1, b)
	n.Hold(0, 0)
	if m, e := n.Deliver(0); e != api.ErrForm || !mess.Same(m, mess.Msg{}) {
		t.Error("the first one is whole", m, e)
	}
}

// P20.2: from each place to each other one.
func TestMove(t *testing.T) {
	l := []mess.Msg{drop(1, 1), held(2, 2), drop(3, 3), held(4, 1)}
	for i := range l {
		for to := range l {
			n := made(t, 4, l...) // full, for a packet that is moved needs no room
			n.Hold(i, 3)
			is(t, "Move", n.Move(i, to), api.OK)
			want := slices.Insert(slices.Delete(slices.Clone(l), i, i+1), to, l[i])
			stands(t, "moved", n, want...)
			held := make([]int, 4)
			held[to] = 3
			waits(t, "moved", n, held...)
		}
		n := made(t, 9, l...)
		for _, to := range []int{math.MinInt, -1, 4, 5, 9, math.MaxInt} {
			is(t, "Move", n.Move(i, to), api.ErrArg)
		}
		stands(t, "refused", n, l...)
	}
}

// P20.2, P20.3: a packet waits as long as it was said last.
func TestHold(t *testing.T) {
	n := made(t, 3, drop(1, 1), held(2, 2), drop(3, 3))
	for _, ticks := range []int{math.MinInt, -1, 1001, math.MaxInt} {
		is(t, "Hold", n.Hold(1, ticks), api.ErrArg)
	}
	waits(t, "refused", n, 0, 0, 0)
	is(t, "Hold", n.Hold(1, 1000), api.OK)
	is(t, "Hold", n.Hold(2, 1), api.OK)
	is(t, "refused", n.Hold(1, 1001), api.ErrArg)
	waits(t, "held", n, 0, 1000, 1)
	n.Tick()
	waits(t, "a tick", n, 0, 999, 0)
	n.Tick()
	waits(t, "another tick", n, 0, 998, 0)
	is(t, "Hold", n.Hold(1, 2), api.OK)
	is(t, "Hold", n.Hold(0, 2), api.OK)
	is(t, "Hold", n.Hold(0, 0), api.OK)
	waits(t, "otherwise", n, 0, 2, 0)
	stays(t, n, 1, api.ErrBusy)
	n.Part(2)
	n.Tick()
	n.Tick()
	waits(t, "also what is cut off", n, 0, 0, 0)
	stays(t, n, 1, api.ErrBusy)
	n.Heal(2)
	comes(t, n, 1, held(2, 2))
	stands(t, "behind", n, drop(1, 1), drop(3, 3))
}

// P20.2, P20.5: just that bit is turned, of each byte the lowest first; what was spoilt once comes as nothing, what was spoilt so twice as it was.
func TestSpoil(t *testing.T) {
	a, b := held(1, 3), drop(2, 1)
	whole := mess.Encode(a)
	for bit := range 8 * len(whole) {
		n := made(t, 4, b, a, b)
		want := bytes.Clone(whole)
		want[bit/8] ^= 1 << (bit % 8)
		is(t, "Spoil", n.Spoil(1, bit), api.OK)
		if got := row(n); !bytes.Equal(got[1], want) || !bytes.Equal(got[0], mess.Encode(b)) || !bytes.Equal(got[2], mess.Encode(b)) {
			t.Fatalf("%d: %x", bit, got)
		}
		is(t, "Twice", n.Twice(1), api.OK)
		if m, e := n.Deliver(1); e != api.ErrForm || !mess.Same(m, mess.Msg{}) {
			t.Error(bit, m, e)
		}
		is(t, "Spoil", n.Spoil(2, bit), api.OK)
		comes(t, n, 2, a)
		stands(t, "behind", n, b, b)
	}
	n := made(t, 4, a)
	for _, bit := range []int{math.MinInt, -8, -1, 8 * len(whole), 8*len(whole) + 1, math.MaxInt} {
		is(t, "Spoil", n.Spoil(0, bit), api.ErrArg)
	}
	stands(t, "refused", n, a)
	n.Hold(0, 1)
	n.Part(3)
	is(t, "Spoil of one that waits", n.Spoil(0, 0), api.OK)
	stays(t, n, 0, api.ErrBusy)
}

// parted fails the test, if not just these sites are cut off.
func parted(t *testing.T, n *net.Net, want ...int) {
	t.Helper()
	if got := n.Parted(); !slices.Equal(got, want) {
		t.Error("Parted", got, "not", want)
	}
}

// P20.3
func TestPart(t *testing.T) {
	n := made(t, 2)
	for _, site := range []int{math.MinInt, -1, 0, 4, 5, math.MaxInt} {
		is(t, "Part", n.Part(site), api.ErrArg)
		is(t, "Heal", n.Heal(site), api.ErrArg)
	}
	parted(t, n)
	for _, site := range []int{3, 1, 3, 2} {
		is(t, "Part", n.Part(site), api.OK)
	}
	parted(t, n, 1, 2, 3)
	for _, site := range []int{1, 1, 3} {
		is(t, "Heal", n.Heal(site), api.OK)
	}
	parted(t, n, 2)
	is(t, "refused", n.Heal(0), api.ErrArg)
	parted(t, n, 2)
	is(t, "Heal", n.Heal(2), api.OK)
	parted(t, n)
	is(t, "Part", n.Part(1), api.OK)
	parted(t, n, 1)
}

// Rule 4: what is told is the asker's own.
func TestShared(t *testing.T) {
	n := made(t, 3, held(1, 1), drop(2, 2))
	n.Part(3)
	n.Part(1)
	clear(n.Packet(0))
	_ = append(n.Packet(0), 1, 2, 3)
	clear(n.Parted())
	stands(t, "written into", n, held(1, 1), drop(2, 2))
	parted(t, n, 1, 3)
	n.Heal(1)
	n.Twice(0)
	b := n.Packet(0)
	n.Spoil(0, 20)
	if !bytes.Equal(b, mess.Encode(held(1, 1))) {
		t.Error("what was told is spoilt")
	}
	m, _ := n.Deliver(2)
	clear(m.Told)
	n.Spoil(0, 20)
	comes(t, n, 0, held(1, 1))
}
