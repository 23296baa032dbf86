package world_test

import (
	"testing"

	"byroad/api"
	"byroad/mess"
	"byroad/order"
)

// runs lets a packet 0 come till it is a Keep, of a world in which one is active.
func (r *rig) runs() {
	r.t.Helper()
	r.does(r.Tick(1))
	for range 50 {
		if m, _ := r.Packet(0); m.Kind == mess.Keep {
			return
		}
		r.does(r.Deliver(0))
	}
	r.t.Fatal("no Keep", r.way())
}

// P30.6: of each message Failed or Lost that an agent told there is a fail, be it told in Step or in Handle, again, or lost on its way.
func TestFails(t *testing.T) {
	r := fresh(t, usual)
	r.runs()
	r.does(r.Abort(1, r.Agent(1).Works()[0].Id), r.Twice(0), r.Deliver(0))
	r.fails("1.1!26")
	r.does(r.Drop(1), r.Deliver(0))
	r.fails("1.1!26 1.1!3") // nothing is held any more
}

// P30.6, again: what is told is a copy.
func TestFailsShared(t *testing.T) {
	r := fresh(t, usual, usual)
	r.does(r.Tick(1))
	r.settle()
	r.fails("1.2!24 2.2!24")
	clear(r.Fails())
	clear(r.Tickets())
	r.fails("1.2!24 2.2!24")
	r.tickets("[{1 0 1} {1 2 1} {2 0 2} {2 2 2}]")
}

// P30.6: each commit of what was held has its ticket, once, whatever is told again.
func TestTickets(t *testing.T) {
	r := fresh(t, subs+"e d")
	r.sets(1, "put u 4")
	r.runs()
	r.does(r.Twice(0), r.Twice(0), r.Deliver(0))
	r.tickets("[{1 0 1}]")
	r.does(r.Deliver(0), r.Deliver(0))
	r.under("kept 1.1>0, kept 1.1>0, kept 1.1>0")
	r.tickets("[{1 0 1}]")
	r.settle()
	r.tickets("[{1 0 1} {1 2 1}]")
	r.submit(subs+"e", 2)
	r.settle()
	r.tickets("[{1 0 1} {1 2 1} {2 0 2}]")
}

// P30.6: a run that was begun anew has the ticket that it took then; and Undo's tickets are not told.
func TestTicketsAnew(t *testing.T) {
	r := fresh(t, subs+"e b d\npath c")
	r.runs()
	r.does(r.Drop(0), r.Crash(1), r.Start(1))
	_, _, e := r.Site(1).Alone(op("get x"))
	is(t, "Alone", e, api.OK)
	for range 3 { // somebody else takes tickets
		id, _ := r.Site(1).Begin()
		r.Site(1).Take(id)
		r.does(r.Site(1).Commit(id))
	}
	r.does(r.Crash(0), r.Start(0), r.Tick(1), r.Deliver(0), r.Deliver(0))
	r.under("keep 1.1>1")
	r.tickets("[]")
	r.settle()
	r.tickets("[{1 0 4} {1 2 1}]") // e was undone by ticket 5
	if r.Site(1).Ticket() != 5 {
		t.Error("Ticket", r.Site(1).Ticket())
	}
	r.stands(1, committed, 4)
}

// P30.6: a ticket of what was held once, but is not any more, is none, when Kept is told again.
func TestTicketsStale(t *testing.T) {
	for kind := range 3 {
		node := kind + 1
		r := fresh(t)
		send := func(kind, try int, l ...api.Op) {
			t.Helper()
			r.Inject(mess.Msg{Kind: kind, To: node, About: mess.About{G: 1, Node: 1, Try: try}, Low: 1, Ops: l})
			r.does(r.Deliver(r.Packets() - 1))
		}
		send(mess.Run, 1, op("put x 1"))
		r.does(r.Abort(node, r.Agent(node).Works()[0].Id))
		send(mess.Keep, 1)
		r.tickets("[]")
		r.fails("1.1!26")
		send(mess.Run, 2, op("put x 1"))
		send(mess.Run, 3, op("put x 1"))
		send(mess.Keep, 2)
		r.fails("1.1!26 1.1!3")
		send(mess.Keep, 3)
		want := order.Ticket{G: 1, Site: kind, N: 1}
		send(mess.Keep, 1)
		send(mess.Keep, 2)
		send(mess.Keep, 3)
		if l := r.Tickets(); len(l) != 1 || l[0] != want {
			t.Error("Tickets", l, "not", want)
		}
	}
}

// P30.6: what was committed by a call in which the power failed was not told.
func TestTicketsUntold(t *testing.T) {
	r := fresh(t, subs+"e")
	r.runs()
	r.does(r.Fuse(1, 1), r.Deliver(0), r.Crash(1, full), r.Start(1))
	if !r.Site(1).Has("k1.1") {
		t.Fatal("it does not last", r.Site(1).Rows())
	}
	r.settle()
	r.stands(1, committed, 1)
	r.tickets("[]")
}

// P30.6: Packet.
func TestPacket(t *testing.T) {
	r := fresh(t)
	r.Inject(request())
	if m, ok := r.Packet(0); !ok || !mess.Same(m, request()) {
		t.Error("Packet", m, ok)
	}
	r.does(r.Spoil(0, 80))
	if m, ok := r.Packet(0); ok || !mess.Same(m, mess.Msg{}) || r.Packets() != 1 {
		t.Error("Packet", m, ok)
	}
}

// P30.6: Free.
func TestFree(t *testing.T) {
	r := fresh(t)
	r.submit(usual, 1)
	r.sets(2, "put x 5")
	for node := range 4 {
		if changed := node == 0 || node == 2; (r.Free(node) < full) != changed {
			t.Error("Free", node, r.Free(node))
		}
	}
	free := r.Free(2)
	r.does(r.Crash(2))
	if r.Free(2) != free {
		t.Error("Free", r.Free(2), free)
	}
	r.does(r.Room(2, full-10))
	if r.Free(2) != free-10 {
		t.Error("Free", r.Free(2), free)
	}
}
