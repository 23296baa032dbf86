package octet_test

import (
	"math"
	"slices"
	"testing"

	"byroad/api"
	"byroad/octet"
)

// Calls of a reader; what they answer is told as one value.
type call func(r *octet.In) any

func nat(r *octet.In) any  { return r.Nat() }
func num(r *octet.In) any  { return r.Num() }
func yes(r *octet.In) any  { return r.Yes() }
func str(most int) call    { return func(r *octet.In) any { return r.Str(most) } }
func up(lo, hi int64) call { return func(r *octet.In) any { return r.Upto(lo, hi) } }
func strs(many, most int) call {
	return func(r *octet.In) any {
		l := r.Strs(many, most)
		if len(l) == 0 {
			return 0
		}
		return len(l)
	}
}

// P2.2, P2.3: a thing behind one byte of another one can't be read.
func TestWrong(t *testing.T) {
	const ok, form, long, arg = api.OK, api.ErrForm, api.ErrLong, api.ErrArg
	for _, c := range []struct {
		name  string
		bytes string
		call  call
		zero  any
		err   api.Errno
		place int
	}{
		{"Nat of nothing", "", nat, uint64(0), form, 1},
		{"Nat of nine bytes", "\x09\x01\x01\x01\x01\x01\x01\x01\x01\x01", nat, uint64(0), form, 1},
		{"Nat of 255 bytes", "\xff\x01", nat, uint64(0), form, 1},
		{"Nat with a nought ahead", "\x02\x00\x05", nat, uint64(0), form, 1},
		{"Nat of a nought", "\x01\x00", nat, uint64(0), form, 1},
		{"Nat cut", "\x02\x01", nat, uint64(0), form, 1},
		{"Nat without its bytes", "\x08", nat, uint64(0), form, 1},
		{"Num of nothing", "", num, int64(0), form, 1},
		{"Num with a nought ahead", "\x03\x00\x05\x01", num, int64(0), form, 1},
		{"Num cut", "\x03\x01\x01", num, int64(0), form, 1},
		{"Yes of nothing", "", yes, false, form, 1},
		{"Yes of two", "\x02", yes, false, form, 1},
		{"Yes of 255", "\xff", yes, false, form, 1},
		{"Str of nothing", "", str(4), "", form, 1},
		{"Str of a number with a nought ahead", "\x02\x00\x01a", str(4), "", form, 1},
		{"Str above", "\x01\x05abcde", str(4), "", long, 1},
		{"Str above, and not there", "\x01\x05", str(4), "", long, 1},
		{"Str far above", "\x08\xff\xff\xff\xff\xff\xff\xff\xffa", str(4), "", long, 1},
		{"Str far above all", "\x08\xff\xff\xff\xff\xff\xff\xff\xffa", str(math.MaxInt), "", long, 1},
		{"Str far off", "\x08\x7f\xff\xff\xff\xff\xff\xff\xffa", str(math.MaxInt), "", form, 1},
		{"Str cut", "\x01\x04abc", str(4), "", form, 1},
		{"Str of one, none allowed", "\x01\x01a", str(0), "", long, 1},
		{"Str of one, fewer than none allowed", "\x01\x01a", str(-5), "", long, 1},
		{"Upto of nothing", "", up(0, 9), int64(0), form, 1},
		{"Upto with a nought ahead", "\x01\x00", up(1, 9), int64(0), form, 1},
		{"Upto below", "\x01\x01", up(0, 9), int64(0), arg, 1},
		{"Upto above", "\x01\x14", up(0, 9), int64(0), arg, 1},
		{"Upto of no limits", "\x01\x02", up(2, 0), int64(0), arg, 1},
		{"Strs of nothing", "", strs(4, 4), 0, form, 1},
		{"Strs, how many can't be read", "\x02\x00\x01", strs(4, 4), 0, form, 1},
		{"Strs, too many", "\x01\x02\x00\x00", strs(1, 4), 0, long, 1},
		{"Strs, one, none allowed", "\x01\x01\x00", strs(0, 4), 0, long, 1},
		{"Strs, one, fewer than none allowed", "\x01\x01\x00", strs(-1, 4), 0, long, 1},
		{"Strs, far too many", "\x08\xff\xff\xff\xff\xff\xff\xff\xff\x00", strs(math.MaxInt, 4), 0, long, 1},
		{"Strs, more than are there", "\x08\x7f\xff\xff\xff\xff\xff\xff\xff\x00", strs(math.MaxInt, 4), 0, form, 11},
		{"Strs, the second one is too long", "\x01\x02\x01\x01a\x01\x02bc", strs(2, 1), 0, long, 6},
		{"Strs, the second one is cut", "\x01\x02\x01\x01a\x01\x02b", strs(2, 2), 0, form, 6},
		{"Strs, the first one is too long", "\x01\x02\x01\x01a\x00", strs(2, 0), 0, long, 3},
		{"Strs, the first one is too long, its limit below none", "\x01\x02\x01\x01a\x00", strs(2, -9), 0, long, 3},
		{"Strs, the second one is not there", "\x01\x02\x00", strs(2, 2), 0, form, 4},
	} {
		all := "\x01" + c.bytes
		r := octet.Of([]byte(all))
		r.Yes()
		if r.Err() != ok || r.Place() != -1 {
			t.Error(c.name, "ahead of it", r.Err(), r.Place())
		}
		if got := c.call(r); got != c.zero {
			t.Error(c.name, "answers", got)
		}
		stays(t, c.name, r, c.err, c.place, len(all)-c.place)
	}
}

// stays: P2.6, what is wrong first stays so, whatever is read behind it.
func stays(t *testing.T, name string, r *octet.In, err api.Errno, place, left int) {
	t.Helper()
	for _, more := range []call{nat, num, yes, str(99), up(-1, 9), up(1, 0), strs(9, 9), func(r *octet.In) any { return r.End() }} {
		if r.Err() != err || r.Place() != place || r.Left() != left {
			t.Error(name, r.Err(), r.Place(), r.Left(), "not", err, place, left)
		}
		switch got := more(r).(type) {
		case api.Errno:
			if got != err {
				t.Error(name, "End", got)
			}
		default:
			if got != uint64(0) && got != int64(0) && got != false && got != "" && got != 0 {
				t.Error(name, "is read on", got)
			}
		}
	}
	if r.Err() != err || r.Place() != place || r.Left() != left {
		t.Error(name, "behind End", r.Err(), r.Place(), r.Left())
	}
}

// P2.2: at the limits, and on them.
func TestLimits(t *testing.T) {
	for _, c := range []struct {
		name  string
		bytes []byte
		call  call
		want  any
	}{
		{"Str of most bytes", octet.Str("abcd"), str(4), "abcd"},
		{"Str of none", octet.Str(""), str(0), ""},
		{"Str of none, its limit below none", octet.Str(""), str(math.MinInt), ""},
		{"Str without a limit", octet.Str("a"), str(math.MaxInt), "a"},
		{"Strs of most", octet.Strs("ab", "c"), strs(2, 2), 2},
		{"Strs of none", octet.Strs(), strs(0, 0), 0},
		{"Strs of none, its limits below none", octet.Strs(), strs(-1, -1), 0},
		{"Strs of empty ones", octet.Strs("", ""), strs(2, -1), 2},
		{"Strs without limits", octet.Strs("a"), strs(math.MaxInt, math.MaxInt), 1},
		{"Upto the lowest", octet.Num(-4), up(-4, 9), int64(-4)},
		{"Upto the highest", octet.Num(9), up(-4, 9), int64(9)},
		{"Upto one", octet.Num(5), up(5, 5), int64(5)},
		{"Upto without limits", octet.Num(math.MinInt64), up(math.MinInt64, math.MaxInt64), int64(math.MinInt64)},
	} {
		r := octet.Of(c.bytes)
		if got := c.call(r); got != c.want || r.End() != api.OK {
			t.Error(c.name, got, r.Err())
		}
	}
}

// P2.3
func TestEnd(t *testing.T) {
	r := octet.Of(octet.Seq(octet.Nat(300), octet.Nat(7)))
	if r.Left() != 5 || r.Nat() != 300 || r.Left() != 2 {
		t.Error("Left", r.Left())
	}
	if r.End() != api.ErrForm {
		t.Error("End with bytes left")
	}
	stays(t, "bytes left", r, api.ErrForm, 3, 2)

	r = octet.Of(octet.Nat(300))
	if r.Nat() != 300 || r.End() != api.OK || r.End() != api.OK || r.Err() != api.OK || r.Place() != -1 || r.Left() != 0 {
		t.Error("the end", r.Err(), r.Place(), r.Left())
	}
	if r.Nat() != 0 {
		t.Error("something behind the end")
	}
	stays(t, "behind the end", r, api.ErrForm, 3, 0)

	for _, r := range []*octet.In{octet.Of(nil), octet.Of([]byte{}), {}} {
		if r.Err() != api.OK || r.Place() != -1 || r.Left() != 0 || r.End() != api.OK {
			t.Error("of no bytes", r.Err(), r.Place(), r.Left())
		}
		r.Yes()
		stays(t, "of no bytes", r, api.ErrForm, 0, 0)
	}
	r = octet.Of([]byte{0, 1})
	if r.End() != api.ErrForm {
		t.Error("End with all bytes left")
	}
	stays(t, "all bytes left", r, api.ErrForm, 0, 2)
}

// P2.3 and example 2
func TestFirstWrong(t *testing.T) {
	r := octet.Of([]byte{1, 1, 1, 9, 'a'})
	if r.Nat() != 1 || r.Str(4) != "" {
		t.Error("read")
	}
	stays(t, "a text that is too long", r, api.ErrLong, 2, 3)
}

// P2.4
func TestReadInOrder(t *testing.T) {
	b := octet.Seq(octet.Num(-7), octet.Str("\xffkey"), octet.Yes(true), octet.Strs("a", "", "b"), octet.Nat(math.MaxUint64), octet.Yes(false), octet.Num(3))
	r := octet.Of(b)
	if r.Num() != -7 || r.Str(4) != "\xffkey" || !r.Yes() || !slices.Equal(r.Strs(3, 1), []string{"a", "", "b"}) || r.Nat() != math.MaxUint64 || r.Yes() || r.Upto(0, 3) != 3 || r.End() != api.OK {
		t.Error("read in order", r.Err(), r.Place())
	}
}

// The rules: what is handed in is not kept and not changed, lists that are answered share nothing.
func TestBytesNotKept(t *testing.T) {
	b := octet.Seq(octet.Str("ab"), octet.Strs("c", "d"))
	whole := string(b)
	r, other := octet.Of(b), octet.Of(b)
	s, l := r.Str(2), r.Strs(2, 1)
	if string(b) != whole {
		t.Error("reading changes the bytes")
	}
	clear(b)
	l[0] = "written into"
	if s != "ab" || other.Str(2) != "ab" || !slices.Equal(other.Strs(2, 1), []string{"c", "d"}) || other.End() != api.OK {
		t.Error("the bytes are kept")
	}
}

// Of a nil reader
func TestNilReader(t *testing.T) {
	var r *octet.In
	for range 2 {
		if r.Nat() != 0 || r.Num() != 0 || r.Str(9) != "" || r.Yes() || len(r.Strs(9, 9)) != 0 || r.Upto(1, 9) != 0 {
			t.Error("read of a nil reader")
		}
		if r.Err() != api.ErrNil || r.End() != api.ErrNil || r.Place() != -1 || r.Left() != 0 {
			t.Error("a nil reader", r.Err(), r.End(), r.Place(), r.Left())
		}
	}
}
