package crc_test

import (
	"bytes"
	"hash/crc32"
	"math"
	"slices"
	"testing"

	"byroad/api"
	"byroad/crc"
)

// run is n bytes, none of them like the next one.
func run(n int) []byte {
	b := make([]byte, n)
	for i := range b {
		b[i] = byte(i*7 + i>>8)
	}
	return b
}

// sizes of bodies, at the edges of what a frame's two bytes of length say.
var sizes = []int{0, 1, 2, 127, 255, 256, 257, 4095, api.MaxBody - 1, api.MaxBody}

// framed is a frame's bytes of any body, also of one that is too long.
func framed(body []byte) []byte {
	f := append([]byte{0xA7, byte(len(body) >> 8), byte(len(body))}, body...)
	s := crc32.Checksum(f, crc32.MakeTable(crc32.Castagnoli))
	return append(f, byte(s>>24), byte(s>>16), byte(s>>8), byte(s))
}

// P3.1: the sum as the document makes it, bit by bit.
func TestSumBitByBit(t *testing.T) {
	sum := func(b []byte) uint32 {
		s := uint32(math.MaxUint32)
		for _, x := range b {
			s ^= uint32(x)
			for range 8 {
				if s&1 == 1 {
					s = s>>1 ^ 0x82F63B78
				} else {
					s >>= 1
				}
			}
		}
		return ^s
	}
	for x := range 256 {
		for _, b := range [][]byte{{byte(x)}, {byte(x), 0}, {255, byte(x)}, run(x)} {
			if got := crc.Sum(b); got != sum(b) {
				t.Errorf("Sum of %x: %08x, not %08x", b, got, sum(b))
			}
		}
	}
}

// P3.1
func TestSumKnown(t *testing.T) {
	rising := make([]byte, 32)
	for i := range rising {
		rising[i] = byte(i)
	}
	for _, c := range []struct {
		b    []byte
		want uint32
	}{
		{nil, 0},
		{[]byte{}, 0},
		{[]byte("123456789"), 0xE3069283},
		{make([]byte, 32), 0x8A9136AA},
		{bytes.Repeat([]byte{255}, 32), 0x62A8AB43},
		{rising, 0x46DD794E},
	} {
		if got := crc.Sum(c.b); got != c.want {
			t.Errorf("Sum of %x: %08x, not %08x", c.b, got, c.want)
		}
	}
	if crc.Sum() != 0 || crc.Sum(nil, nil) != 0 {
		t.Error("Sum of no parts")
	}
}

// P3.1: parts stand one behind the other, wherever they part.
func TestParts(t *testing.T) {
	b := run(40)
	sum, frame := crc.Sum(b), crc.Wrap(b)
	for i := range len(b) + 1 {
		for j := i; j <= len(b); j++ {
			if crc.Sum(b[:i], b[i:j], nil, b[j:]) != sum {
				t.Error("Sum, parted at", i, j)
			}
			if !bytes.Equal(crc.Wrap(b[:i], b[i:j], nil, b[j:]), frame) {
				t.Error("Wrap, parted at", i, j)
			}
		}
	}
	if crc.Sum(b[20:], b[:20]) == sum || bytes.Equal(crc.Wrap(b[20:], b[:20]), frame) {
		t.Error("parts in another order are the same")
	}
}

// P3.1 and the example
func TestWrap(t *testing.T) {
	for _, n := range sizes {
		if f := crc.Wrap(run(n)); !bytes.Equal(f, framed(run(n))) || len(f) != n+7 {
			t.Errorf("Wrap of %d bytes: %d bytes, that begin %x", n, len(f), f[:min(len(f), 8)])
		}
	}
	if f := crc.Wrap(); !bytes.Equal(f, framed(nil)) {
		t.Errorf("Wrap of no parts: %x", f)
	}
	if f := crc.Wrap([]byte("a")); len(f) != 8 || string(f[:4]) != "\xA7\x00\x01a" {
		t.Errorf("Wrap of a: %x", f)
	}
	most := run(api.MaxBody)
	for name, f := range map[string][]byte{
		"one byte too many":      crc.Wrap(run(api.MaxBody + 1)),
		"one byte in a part":     crc.Wrap(most, []byte{1}),
		"one byte ahead":         crc.Wrap([]byte{1}, nil, most),
		"as many as two bytes":   crc.Wrap(run(65535)),
		"one more than that":     crc.Wrap(run(65536)),
		"twice the most of them": crc.Wrap(most, most),
	} {
		if f != nil {
			t.Error(name, "is wrapped in", len(f))
		}
	}
}

// P3.2, P3.3: what was wrapped is told again.
func TestBack(t *testing.T) {
	for _, n := range sizes {
		f := crc.Wrap(run(n))
		if b, ok := crc.One(f); !ok || !bytes.Equal(b, run(n)) {
			t.Error("One of", n, len(b), ok)
		}
		if b, size := crc.Peel(f); size != n+7 || !bytes.Equal(b, run(n)) {
			t.Error("Peel of", n, len(b), size)
		}
		if l, size := crc.All(f); size != n+7 || len(l) != 1 || !bytes.Equal(l[0], run(n)) {
			t.Error("All of", n, len(l), size)
		}
	}
}

// P3.2: what is no frame.
func TestNoFrame(t *testing.T) {
	good := crc.Wrap([]byte("abc"))
	turned := func(i int) []byte {
		b := slices.Clone(good)
		b[i]++
		return b
	}
	for name, b := range map[string][]byte{
		"nothing":                     nil,
		"no bytes":                    {},
		"its first byte":              {0xA7},
		"six bytes":                   framed(nil)[:6],
		"one byte less":               good[:len(good)-1],
		"another first byte":          turned(0),
		"longer":                      turned(2),
		"far longer":                  turned(1),
		"another body":                turned(3),
		"another sum":                 turned(9),
		"another sum's first byte":    turned(6),
		"something ahead":             append([]byte{0}, good...),
		"a sum in the other order":    append(slices.Clone(good[:6]), good[9], good[8], good[7], good[6]),
		"too long a body":             framed(run(api.MaxBody + 1)),
		"far too long a body":         framed(run(65535)),
		"a sum of the body alone":     {0xA7, 0, 0, 0, 0, 0, 0},
		"another first byte, its sum": sealed([]byte{0xA6, 0, 0}),
		"a short length, its sum":     sealed([]byte{0xA7, 0, 2, 'a', 'b', 'c'}),
		"a length in another order":   sealed([]byte{0xA7, 1, 0, 'a'}),
	} {
		if x, ok := crc.One(b); ok || len(x) != 0 {
			t.Errorf("%s: One %x %v", name, x, ok)
		}
		if x, n := crc.Peel(b); n != 0 || len(x) != 0 {
			t.Errorf("%s: Peel %x %d", name, x, n)
		}
		if l, n := crc.All(b); n != 0 || len(l) != 0 {
			t.Errorf("%s: All %x %d", name, l, n)
		}
	}
}

// sealed is bytes with their right sum behind them.
func sealed(b []byte) []byte {
	s := crc.Sum(b)
	return append(b, byte(s>>24), byte(s>>16), byte(s>>8), byte(s))
}

// P3.2: a frame, and more behind it.
func TestMoreBehind(t *testing.T) {
	f := crc.Wrap([]byte("abc"))
	for name, more := range map[string][]byte{"a nought": {0}, "a frame's beginning": f[:4], "itself": f, "noise": run(300)} {
		b := append(slices.Clone(f), more...)
		if x, ok := crc.One(b); ok || len(x) != 0 {
			t.Errorf("%s: One %x %v", name, x, ok)
		}
		if x, n := crc.Peel(b); n != len(f) || string(x) != "abc" {
			t.Errorf("%s: Peel %x %d", name, x, n)
		}
		many := 1
		if name == "itself" {
			many = 2
		}
		if l, n := crc.All(b); len(l) != many || n != many*len(f) {
			t.Errorf("%s: All %x %d", name, l, n)
		}
	}
}

// P3.3: what One tells has no other bytes.
func TestOneFormAlone(t *testing.T) {
	for _, n := range sizes {
		f := crc.Wrap(run(n))
		if b, ok := crc.One(f); !ok || !bytes.Equal(crc.Wrap(b), f) {
			t.Error("another frame of", n)
		}
	}
	for x := range 1 << 16 {
		f := sealed([]byte{0xA7, byte(x >> 8), byte(x), 'a', 'b'})
		if b, ok := crc.One(f); ok != (x == 2) || ok && !bytes.Equal(crc.Wrap(b), f) {
			t.Errorf("One of %x: %v", f, ok)
		}
	}
}

// P3.4
func TestOneBit(t *testing.T) {
	for _, n := range []int{0, 1, 3, 255, 256, 600} {
		f := crc.Wrap(run(n))
		for bit := range 8 * len(f) {
			oneBit(t, f, bit)
		}
	}
	f := crc.Wrap(run(api.MaxBody))
	for bit := 0; bit < 8*len(f); bit += 331 {
		oneBit(t, f, bit)
	}
	for bit := range 24 {
		oneBit(t, f, bit)
		oneBit(t, f, 8*len(f)-1-bit)
	}
}

func oneBit(t *testing.T, f []byte, bit int) {
	t.Helper()
	f[bit/8] ^= 1 << (bit % 8)
	if b, ok := crc.One(f); ok || len(b) != 0 {
		t.Error("a frame of", len(f), "with its bit turned", bit)
	}
	f[bit/8] ^= 1 << (bit % 8)
}

// P3.5
func TestCut(t *testing.T) {
	var all []byte
	var ends []int
	bodies := [][]byte{run(5), nil, run(300), {0xA7, 0, 0}, crc.Wrap([]byte("inner")), run(1)}
	for _, b := range bodies {
		all = append(all, crc.Wrap(b)...)
		ends = append(ends, len(all))
	}
	for cut := range len(all) + 1 {
		whole := 0
		for whole < len(ends) && ends[whole] <= cut {
			whole++
		}
		l, n := crc.All(all[:cut])
		if len(l) != whole || whole == 0 && n != 0 || whole > 0 && n != ends[whole-1] {
			t.Error("cut at", cut, "has", len(l), n)
			continue
		}
		for i, b := range l {
			if !bytes.Equal(b, bodies[i]) {
				t.Errorf("cut at %d: the body %d is %x", cut, i, b)
			}
		}
	}
}

// P3.2: behind something that is no frame nothing is told, frames or not.
func TestSpoiltBetween(t *testing.T) {
	a, b, c := crc.Wrap([]byte("a")), crc.Wrap([]byte("b")), crc.Wrap([]byte("c"))
	b[3] ^= 1
	if l, n := crc.All(slices.Concat(a, b, c)); len(l) != 1 || string(l[0]) != "a" || n != len(a) {
		t.Errorf("All %x %d", l, n)
	}
	if l, n := crc.All(slices.Concat(a, []byte{0}, c)); len(l) != 1 || n != len(a) {
		t.Errorf("All %x %d", l, n)
	}
}

// P3.5 and the rules: what is told shares nothing with what was handed in, nor with other answers.
func TestShareNothing(t *testing.T) {
	two := slices.Concat(crc.Wrap([]byte("abc")), crc.Wrap([]byte("de")))
	kept := slices.Clone(two)
	one, _ := crc.One(two[:10])
	peeled, _ := crc.Peel(two)
	l, _ := crc.All(two)
	for _, b := range [][]byte{one, peeled, l[0]} {
		for i := range b {
			b[i] = 'X'
		}
		_ = append(b, "written behind it"...)
	}
	if !bytes.Equal(two, kept) || string(l[1]) != "de" {
		t.Errorf("written into what was handed in, or another answer: %x, %x", two, l[1])
	}
	again, _ := crc.All(two)
	clear(two)
	if string(again[0]) != "abc" || string(again[1]) != "de" {
		t.Errorf("what was handed in is seen in an answer: %x", again)
	}

	part := append(make([]byte, 0, 40), "part"...)
	f := crc.Wrap(part, part)
	crc.Sum(part, part)
	if string(part[:40]) != "part"+string(make([]byte, 36)) {
		t.Errorf("a part was written into: %x", part[:40])
	}
	clear(part)
	if b, ok := crc.One(f); !ok || string(b) != "partpart" {
		t.Errorf("a part is kept: %x", b)
	}
}
