package net

import (
	"bytes"

	"byroad/api"
	"byroad/fault"
	"byroad/mess"
)

// mostTicks is how long a packet may be held back at once.
const mostTicks = 1000

// Deliver lets packet i come, and is its message.
func (n *Net) Deliver(i int) (mess.Msg, api.Errno) {
	p, err := n.find(i)
	if err == nil && (p.waits > 0 || n.parted(p.site)) {
		err = fault.At(i, fault.New(api.ErrBusy))
	}
	if err != nil {
		return mess.Msg{}, fault.Code(err)
	}
	n.take(i)
	return mess.Decode(p.bytes)
}

// Drop loses packet i.
func (n *Net) Drop(i int) api.Errno {
	_, err := n.find(i)
	if err == nil {
		n.take(i)
	}
	return fault.Code(err)
}

// Twice doubles packet i. The other one has bytes of its own, for only one of them may be spoilt.
func (n *Net) Twice(i int) api.Errno {
	p, err := n.find(i)
	if err == nil && n.full() {
		err = fault.Bound(int64(n.most), int64(n.Len())+1, fault.At(i, fault.New(api.ErrFull)))
	}
	if err == nil {
		n.packets = append(n.packets, &packet{bytes: bytes.Clone(p.bytes), site: p.site})
	}
	return fault.Code(err)
}

// Move puts packet i at another place.
func (n *Net) Move(i, to int) api.Errno {
	p, err := n.find(i)
	if err == nil {
		err = fault.In("place", within(0, n.Len()-1, to))
	}
	if err == nil {
		n.take(i)
		n.put(to, p)
	}
	return fault.Code(err)
}

// Hold lets packet i wait so many ticks.
func (n *Net) Hold(i, ticks int) api.Errno {
	p, err := n.find(i)
	if err == nil {
		err = fault.In("ticks", within(0, mostTicks, ticks))
	}
	if err == nil {
		p.waits = ticks
	}
	return fault.Code(err)
}

// Spoil turns one bit of packet i.
func (n *Net) Spoil(i, bit int) api.Errno {
	p, err := n.find(i)
	if err == nil {
		err = fault.In("bit", within(0, 8*len(p.bytes)-1, bit))
	}
	if err == nil {
		p.bytes[bit/8] ^= 1 << (bit % 8)
	}
	return fault.Code(err)
}

// find is packet i.
func (n *Net) find(i int) (*packet, error) {
	if n.none() {
		return nil, fault.New(api.ErrNil)
	}
	if i < 0 || i >= len(n.packets) {
		return nil, fault.At(i, fault.New(api.ErrNone))
	}
	return n.packets[i], nil
}

// take takes packet i out of the row.
func (n *Net) take(i int) {
	last := len(n.packets) - 1
	copy(n.packets[i:], n.packets[i+1:])
	n.packets[last] = nil // else its bytes would be kept
	n.packets = n.packets[:last]
}

// put puts a packet into the row at a place.
func (n *Net) put(at int, p *packet) {
	n.packets = append(n.packets, nil)
	copy(n.packets[at+1:], n.packets[at:])
	n.packets[at] = p
}
