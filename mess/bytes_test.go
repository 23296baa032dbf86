package mess_test

import (
	"bytes"
	"fmt"
	"math"
	"math/rand"
	"slices"
	"testing"

	"byroad/api"
	"byroad/crc"
	"byroad/mess"
	"byroad/octet"
	"byroad/ops"
)

// P19.1: the bytes, number by number.
func TestEncode(t *testing.T) {
	for _, x := range []struct {
		m    mess.Msg
		want string
	}{
		{
			mess.Msg{Kind: mess.Run, To: 2, About: mess.About{G: 7, Node: 3, Try: 1}, Low: 5, Ops: []api.Op{{Kind: api.Add, Key: "xy", N: -4}}},
			"\x01\x01" + "\x00" + "\x01\x02" + "\x01\x07" + "\x01\x03" + "\x01\x01" + "\x01\x05" + "\x00" + "\x00" + "\x00" +
				"\x01\x0b" + "\x01\x01" + "\x01\x04" + "\x01\x02xy" + "\x01\x07" + "\x00",
		},
		{
			mess.Msg{Kind: mess.Undo, To: 3, About: mess.About{G: lastG, Node: 255, Try: lastTry}, Low: lastLow},
			"\x01\x04" + "\x00" + "\x01\x03" + "\x03\x10\x00\x00" + "\x01\xff" + "\x03\x10\x00\x00" + "\x03\x10\x00\x01" + "\x00" + "\x00" + "\x00" + "\x01\x01\x00",
		},
		{
			mess.Msg{Kind: mess.Keep, To: 1, About: mess.About{G: 300, Node: 0, Try: 0}, Low: 1},
			"\x01\x02" + "\x00" + "\x01\x01" + "\x02\x01\x2c" + "\x00" + "\x00" + "\x01\x01" + "\x00" + "\x00" + "\x00" + "\x01\x01\x00",
		},
		{
			mess.Msg{Kind: mess.Held, From: 2, About: mess.About{G: 1, Node: 2, Try: 3}, Ticket: 256, Told: []int64{-1, 0, 128}},
			"\x01\x0b" + "\x01\x02" + "\x00" + "\x01\x01" + "\x01\x02" + "\x01\x03" + "\x00" + "\x00" + "\x02\x01\x00" + "\x01\x03\x01\x01\x00\x02\x01\x00" + "\x01\x01\x00",
		},
		{
			mess.Msg{Kind: mess.Lost, From: 1, About: mess.About{G: 1}, Code: 99},
			"\x01\x0e" + "\x01\x01" + "\x00" + "\x01\x01" + "\x00" + "\x00" + "\x00" + "\x01\x63" + "\x00" + "\x00" + "\x01\x01\x00",
		},
	} {
		want := crc.Wrap([]byte(x.want))
		if got := mess.Encode(x.m); !bytes.Equal(got, want) {
			t.Errorf("%v:\n%x, not\n%x", x.m, got, want)
		}
		if m, e := mess.Decode(want); e != api.OK || !mess.Same(m, x.m) {
			t.Errorf("%x: %v %d", want, m, e)
		}
	}
}

// anyOf is one of these, or another number upto most.
func anyOf(r *rand.Rand, most int, l ...int) int {
	if i := r.Intn(len(l) + 1); i < len(l) {
		return l[i]
	}
	return r.Intn(most + 1)
}

// anyNum is a number of 64 bits.
func anyNum(r *rand.Rand) int64 {
	return []int64{0, 1, -1, math.MaxInt64, math.MinInt64, int64(r.Uint64()), r.Int63n(1000)}[r.Intn(7)]
}

// anyMsg is a message that may be.
func anyMsg(r *rand.Rand) mess.Msg {
	k := kinds()[r.Intn(10)]
	m := mess.Msg{Kind: k.kind, About: mess.About{G: 1 + anyOf(r, lastG-1, 0, lastG-1), Node: anyOf(r, 255, 0, 255)}}
	if k.of("request") {
		m.To = 1 + r.Intn(3)
	} else {
		m.From = 1 + r.Intn(3)
	}
	if k.of("try") {
		m.Try = anyOf(r, lastTry, 0, 1, lastTry)
	}
	if k.of("low") {
		m.Low = 1 + anyOf(r, lastLow-1, 0, lastLow-1)
	}
	if k.of("code") {
		m.Code = api.Errno(1 + anyOf(r, 98, 0, 98))
	}
	if k.of("ticket") {
		m.Ticket = anyNum(r) & math.MaxInt64
	}
	if k.of("told") {
		for range r.Intn(api.MaxOps + 1) {
			m.Told = append(m.Told, anyNum(r))
		}
	}
	if k.of("ops") {
		for range r.Intn(api.MaxOps + 1) {
			m.Ops = append(m.Ops, anyOp(r))
		}
	}
	return m
}

// anyOp is an operation that may be asked.
func anyOp(r *rand.Rand) api.Op {
	op := api.Op{Kind: 1 + r.Intn(6), Key: "0123456789abcdefghijklmnopqrstuvwxyz._"[r.Intn(20):][:1+r.Intn(api.MaxKey)]}
	if op.Kind != api.Get && op.Kind != api.Del {
		op.N = anyNum(r)
	}
	if op.Kind == api.Min {
		op.Lo = anyNum(r)
	}
	return op
}

// copied is a message with lists of its own.
func copied(m mess.Msg) mess.Msg {
	m.Told, m.Ops = slices.Clone(m.Told), slices.Clone(m.Ops)
	return m
}

// unread fails the test, if these bytes are read.
func unread(t *testing.T, what string, b []byte) {
	t.Helper()
	if m, e := mess.Decode(b); e != api.ErrForm || !mess.Same(m, mess.Msg{}) {
		t.Errorf("%s: %x is read as %v %d", what, b, m, e)
	}
}

// P19.3: a message that may be is read as it was, and no beginning of its bytes nor anything longer is read; what is handed in stays as it is, and is not kept.
func TestBack(t *testing.T) {
	r := rand.New(rand.NewSource(193))
	for n := range 1000 {
		m := anyMsg(r)
		if !mess.May(m) {
			t.Fatal(m, "may not be")
		}
		asked := copied(m)
		b := mess.Encode(asked)
		if !mess.Same(asked, m) {
			t.Fatal(m, "is changed by Encode")
		}
		clear(asked.Told)
		clear(asked.Ops)
		kept := bytes.Clone(b)
		got, e := mess.Decode(b)
		if e != api.OK || !mess.Same(got, m) || !bytes.Equal(b, kept) {
			t.Fatal(n, e, got, m)
		}
		clear(b)
		if !mess.Same(got, m) || !bytes.Equal(mess.Encode(got), kept) {
			t.Fatal(n, "the bytes are kept")
		}
		other, _ := mess.Decode(kept)
		clear(got.Told)
		clear(got.Ops)
		if !mess.Same(other, m) || !bytes.Equal(mess.Encode(m), kept) {
			t.Fatal(n, "answers share what they have")
		}
		for i := range kept {
			unread(t, fmt.Sprint(n, " cut at ", i), kept[:i])
			unread(t, fmt.Sprint(n, " without the first ", i+1), kept[i+1:])
		}
		unread(t, fmt.Sprint(n, " longer"), append(bytes.Clone(kept), 0))
		unread(t, fmt.Sprint(n, " twice"), append(bytes.Clone(kept), kept...))
	}
}

// P19.4: a message of which any one bit was turned is none.
func TestOneBit(t *testing.T) {
	r := rand.New(rand.NewSource(194))
	l := []mess.Msg{}
	for _, k := range kinds() {
		l = append(l, k.one())
	}
	for range 50 {
		l = append(l, anyMsg(r))
	}
	for _, m := range l {
		b := mess.Encode(m)
		for bit := range 8 * len(b) {
			b[bit/8] ^= 1 << (bit % 8)
			unread(t, fmt.Sprint("bit ", bit), b)
			b[bit/8] ^= 1 << (bit % 8)
		}
		if got, e := mess.Decode(b); e != api.OK || !mess.Same(got, m) {
			t.Error("turned back", got, e)
		}
	}
}

// numbers is a frame's beginning of a body: these numbers.
func numbers(l ...uint64) []byte {
	var b []byte
	for _, n := range l {
		b = append(b, octet.Nat(n)...)
	}
	return b
}

// framed is the frame of parts.
func framed(parts ...[]byte) []byte {
	return crc.Wrap(octet.Seq(parts...))
}

// noOps is the bytes of no operations, as a text.
const noOps = "\x01\x01\x00"

// P19.1: numbers that no message has, also such as are cut down to one that a message may have by fewer bits.
func TestDecodeNumbers(t *testing.T) {
	for _, x := range []struct {
		name string
		l    []uint64 // Kind to Ticket
	}{
		{"Keep", []uint64{2, 0, 1, 7, 3, 1, 5, 0, 0}},
		{"Drop", []uint64{3, 0, 3, 7, 3, 0, 5, 0, 0}},
		{"Undo", []uint64{4, 0, 3, 7, 3, 0, 5, 0, 0}},
		{"Held", []uint64{11, 1, 0, 7, 3, 1, 0, 0, 4}},
		{"Failed", []uint64{12, 1, 0, 7, 3, 1, 0, 24, 0}},
		{"Undone", []uint64{16, 1, 0, 7, 3, 0, 0, 0, 0}},
	} {
		end := []byte("\x00" + noOps)
		if m, e := mess.Decode(framed(numbers(x.l...), end)); e != api.OK || !mess.May(m) {
			t.Fatal(x.name, m, e)
		}
		for i, was := range x.l {
			for _, n := range []uint64{0, 1 << 20, 1<<20 + 1, 1<<20 + 2, 1<<32 + was, 1<<63 + was, math.MaxInt64, 1 << 63, math.MaxUint64} {
				l := slices.Clone(x.l)
				l[i] = n
				b := framed(numbers(l...), end)
				m, e := mess.Decode(b)
				switch ticket := x.name == "Held" && i == 8; {
				case ticket && n <= math.MaxInt64:
					if e != api.OK || m.Ticket != int64(n) {
						t.Error("Ticket", n, m, e)
					}
				case e != api.OK || n > lastLow:
					unread(t, fmt.Sprint(x.name, " ", i, " ", n), b)
				case !mess.May(m) || !bytes.Equal(mess.Encode(m), b):
					t.Error(x.name, i, n, "is read as", m)
				}
			}
			unread(t, x.name+" cut", framed(numbers(x.l[:i]...)))
			unread(t, x.name+" with a nought ahead", framed(numbers(x.l[:i]...), []byte("\x02\x00\x01"), numbers(x.l[i+1:]...), end))
		}
	}
}

// P19.1: lists that no message has.
func TestDecodeLists(t *testing.T) {
	held := numbers(11, 1, 0, 7, 3, 1, 0, 0, 4)
	run := numbers(1, 0, 1, 7, 3, 1, 5, 0, 0)
	kept := numbers(13, 1, 0, 7, 3, 0, 0, 0, 0)
	zeros := func(n int) []byte { return make([]byte, n) }
	for n := range 12 {
		b := framed(held, octet.Nat(uint64(n)), zeros(n), []byte(noOps))
		if m, e := mess.Decode(b); n <= api.MaxOps && (e != api.OK || len(m.Told) != n) {
			t.Error("Told", n, m, e)
		} else if n > api.MaxOps {
			unread(t, fmt.Sprint("Told ", n), b)
		}
	}
	for _, n := range []uint64{1, 8, 9, 10, 1 << 32, 1 << 63, math.MaxUint64} {
		unread(t, fmt.Sprint("Told ", n, " that are not there"), framed(held, octet.Nat(n), []byte(noOps)))
	}
	unread(t, "Told of a request", framed(run, octet.Nat(1), octet.Num(5), []byte(noOps)))
	unread(t, "Told of another reply", framed(kept, octet.Nat(1), octet.Num(0), []byte(noOps)))
	ask := func(head []byte, l ...api.Op) []byte {
		return framed(head, octet.Nat(0), octet.Str(string(ops.Encode(l...))))
	}
	for n := range 12 {
		l := make([]api.Op, n)
		for i := range l {
			l[i] = get
		}
		if m, e := mess.Decode(ask(run, l...)); n <= api.MaxOps && (e != api.OK || !slices.Equal(m.Ops, l)) {
			t.Error("Ops", n, m, e)
		} else if n > api.MaxOps {
			unread(t, fmt.Sprint("Ops ", n), ask(run, l...))
		}
	}
	unread(t, "Ops of a reply", ask(held, get))
	unread(t, "Ops of another reply", ask(kept, get))
	unread(t, "the system's key", ask(run, api.Op{Kind: api.Put, Key: "~t"}))
	unread(t, "no operation", ask(run, api.Op{Kind: 7, Key: "x"}))
	unread(t, "Ops of no bytes", framed(run, []byte("\x00\x00")))
	unread(t, "Ops and more", framed(run, []byte("\x00"+"\x01\x02\x00\x00")))
	unread(t, "Ops with a nought ahead", framed(run, []byte("\x00"+"\x01\x03\x02\x00\x00")))
	unread(t, "Ops that are not there whole", framed(run, []byte("\x00"+"\x01\x05\x00")))
	unread(t, "Ops of so many bytes", framed(run, []byte("\x00"), octet.Nat(math.MaxUint64)))
	unread(t, "Ops that are no text", framed(run, []byte("\x00\x00\x00")))
	unread(t, "no Ops", framed(run, []byte("\x00")))
	unread(t, "more", framed(run, []byte("\x00"+noOps+"\x00")))
	if m, e := mess.Decode(framed(run, []byte("\x00"+noOps))); e != api.OK || m.Kind != mess.Run || len(m.Ops) != 0 {
		t.Error("no operations", m, e)
	}
}

// P19.1: bytes that are no frame, or whose frame is another thing's.
func TestDecodeForm(t *testing.T) {
	unread(t, "nothing", nil)
	unread(t, "no bytes", []byte{})
	unread(t, "an empty frame", framed())
	unread(t, "the greatest frame", framed(make([]byte, api.MaxBody)))
	unread(t, "many ones", framed(bytes.Repeat([]byte("\x01\x01"), api.MaxBody/2)))
	m := kinds()[0].one()
	b := mess.Encode(m)
	body, _ := crc.One(b)
	unread(t, "a body without its frame", body)
	unread(t, "a frame in a frame", framed(b))
	unread(t, "bytes ahead", append([]byte{0}, b...))
	for i := range body {
		unread(t, fmt.Sprint("a body cut at ", i), framed(body[:i]))
	}
}

// P1, P19.1, P19.3: whatever is read may be, and has just these bytes.
func TestDecodeAny(t *testing.T) {
	r := rand.New(rand.NewSource(191))
	read := 0
	for range 40000 {
		body, _ := crc.One(mess.Encode(anyMsg(r)))
		for range 1 + r.Intn(2) {
			body[r.Intn(len(body))] = []byte{0, 1, 2, 3, byte(r.Intn(256))}[r.Intn(5)]
		}
		b := framed(body)
		m, e := mess.Decode(b)
		if e != api.OK {
			unread(t, "any", b)
			continue
		}
		read++
		if !mess.May(m) || !bytes.Equal(mess.Encode(m), b) {
			t.Fatalf("%x is read as %v", b, m)
		}
	}
	if read < 1000 {
		t.Error("hardly anything was read", read)
	}
}
