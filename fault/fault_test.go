package fault_test

import (
	"errors"
	"fmt"
	"math"
	"slices"
	"testing"

	"byroad/api"
	"byroad/fault"
)

var codes = []api.Errno{
	api.ErrNil, api.ErrArg, api.ErrNone, api.ErrThere, api.ErrFull, api.ErrForm, api.ErrLong, api.ErrDown, api.ErrState,
	api.ErrBusy, api.ErrVictim, api.ErrLate, api.ErrStale, api.ErrGuard, api.ErrOver, api.ErrKilled, api.ErrSlow,
	api.ErrName, api.ErrType, api.ErrPath, api.ErrStuck, api.ErrPast,
	-1, 99, math.MaxInt, math.MinInt,
}

// wrapper is an error of another package that wraps one.
type wrapper struct{ err error }

func (w wrapper) Error() string { return "wrapped" }
func (w wrapper) Unwrap() error { return w.err }

// odd is an error that == can't be asked of.
type odd struct{ l []int }

func (o odd) Error() string { return "odd" }

// P1.1
func TestNothingWrapped(t *testing.T) {
	for name, err := range map[string]error{
		"New":   fault.New(api.OK),
		"At":    fault.At(3, nil),
		"In":    fault.In("x", nil),
		"Bound": fault.Bound(1, 2, nil),
		"deep":  fault.At(1, fault.In("x", fault.Bound(1, 2, fault.New(api.OK)))),
		"First": fault.First(),
		"nils":  fault.First(nil, nil, fault.New(api.OK)),
	} {
		if err != nil {
			t.Error(name, err)
		}
	}
}

// P1.1
func TestEachSaysItsOwn(t *testing.T) {
	inner := fault.New(api.ErrForm)
	for name, err := range map[string]error{"At": fault.At(0, inner), "In": fault.In("", inner), "Bound": fault.Bound(0, 0, inner)} {
		if err == nil || errors.Unwrap(err) != inner {
			t.Error(name, "does not wrap it")
		}
	}
	if errors.Unwrap(inner) != nil {
		t.Error("a number's fault wraps something")
	}
	if fault.Place(fault.At(0, inner)) != 0 || fault.Place(fault.At(-7, inner)) != -7 || fault.Place(fault.At(math.MaxInt, inner)) != math.MaxInt {
		t.Error("At")
	}
	if l := fault.Trail(fault.In("", inner)); len(l) != 1 || l[0] != "" {
		t.Error("In", l)
	}
	if a, b, ok := fault.Limit(fault.Bound(math.MinInt64, math.MaxInt64, inner)); a != math.MinInt64 || b != math.MaxInt64 || !ok {
		t.Error("Bound", a, b, ok)
	}
	if a, b, ok := fault.Limit(fault.Bound(0, 0, inner)); a != 0 || b != 0 || !ok {
		t.Error("Bound of noughts", a, b, ok)
	}
}

// P1.1
func TestFirst(t *testing.T) {
	a, b := fault.New(api.ErrForm), fault.New(api.ErrArg)
	if fault.First(nil, a, b) != a || fault.First(b, a) != b || fault.First(nil, nil, b, nil) != b {
		t.Error("First")
	}
	other := errors.New("other")
	if fault.First(nil, other, a) != other {
		t.Error("First of another package's")
	}
	l := []error{nil, a}
	fault.First(l...)
	if l[0] != nil || l[1] != a {
		t.Error("First changes its list")
	}
}

// P1.2
func TestCode(t *testing.T) {
	if fault.Code(nil) != api.OK || fault.Is(nil, api.OK) || fault.Is(nil, api.ErrArg) {
		t.Error("nil")
	}
	for _, e := range codes {
		for depth, err := range wraps(fault.New(e)) {
			if fault.Code(err) != e {
				t.Error(e, depth, "Code", fault.Code(err))
			}
			if fault.Is(err, api.OK) {
				t.Error(e, depth, "is OK")
			}
			for _, f := range codes {
				if fault.Is(err, f) != (e == f) || errors.Is(err, fault.New(f)) != (e == f) {
					t.Error(e, depth, "Is", f)
				}
			}
		}
	}
}

// wraps is err, and it wrapped in each way, by this package and by others.
func wraps(err error) []error {
	l := []error{err, fault.At(4, err), fault.In("a", err), fault.Bound(1, 2, err)}
	l = append(l, fault.At(1, fault.In("b", fault.Bound(3, 4, err))), fault.Bound(5, 6, fault.At(2, fault.In("c", err))))
	l = append(l, wrapper{err}, fmt.Errorf("by fmt: %w", err), fault.At(1, wrapper{fault.In("d", err)}))
	return l
}

// P1.2
func TestCodeWithoutNumber(t *testing.T) {
	other := errors.New("other")
	for depth, err := range wraps(other) {
		if fault.Code(err) != api.ErrArg || !fault.Is(err, api.ErrArg) || fault.Is(err, api.ErrForm) || fault.Is(err, api.OK) {
			t.Error(depth, fault.Code(err))
		}
	}
}

// P1.3
func TestOutermost(t *testing.T) {
	base := fault.New(api.ErrLong)
	err := fault.In("a", fault.Bound(1, 2, fault.At(3, fault.In("b", fault.At(4, fault.Bound(5, 6, fault.In("a", base)))))))
	if fault.Place(err) != 3 {
		t.Error("Place", fault.Place(err))
	}
	if a, b, ok := fault.Limit(err); a != 1 || b != 2 || !ok {
		t.Error("Limit", a, b, ok)
	}
	if l := fault.Trail(err); !slices.Equal(l, []string{"a", "b", "a"}) {
		t.Error("Trail", l)
	}
	if fault.Depth(err) != 8 {
		t.Error("Depth", fault.Depth(err))
	}
}

// P1.3
func TestNothingSaid(t *testing.T) {
	for _, err := range []error{nil, fault.New(api.ErrForm), errors.New("other"), fault.At(1, errors.New("other"))} {
		if l := fault.Trail(err); len(l) != 0 {
			t.Error(err, "Trail", l)
		}
		if a, b, ok := fault.Limit(err); a != 0 || b != 0 || ok {
			t.Error(err, "Limit", a, b, ok)
		}
	}
	for _, err := range []error{nil, fault.New(api.ErrForm), errors.New("other"), fault.In("x", fault.Bound(1, 2, fault.New(api.ErrForm)))} {
		if fault.Place(err) != -1 {
			t.Error(err, "Place", fault.Place(err))
		}
	}
}

// P1.3
func TestDepth(t *testing.T) {
	for want, err := range []error{
		nil,
		errors.New("other"),
		fault.At(1, errors.New("other")),
		fault.At(3, fault.In("key", fault.New(api.ErrLong))),
		fault.At(1, wrapper{fault.In("key", fault.New(api.ErrLong))}),
	} {
		if fault.Depth(err) != want {
			t.Error(err, "Depth", fault.Depth(err), "not", want)
		}
	}
}

// P1.3: as deep as the document's bound lets a chain be.
func TestDeepChain(t *testing.T) {
	const deep = 1 << 16
	err := fault.New(api.ErrStale)
	for i := 1; i < deep; i++ {
		err = fault.In("n", err)
	}
	if fault.Depth(err) != deep || fault.Code(err) != api.ErrStale || fault.Place(err) != -1 || len(fault.Trail(err)) != deep-1 {
		t.Error(fault.Depth(err), fault.Code(err), fault.Place(err), len(fault.Trail(err)))
	}
	if err.Error() == "" {
		t.Error("no text")
	}
}

// P1.4
func TestWrappedIsFound(t *testing.T) {
	mine := &wrapper{}
	for depth, err := range wraps(wrapper{mine}) {
		var got *wrapper
		if !errors.Is(err, mine) || !errors.As(err, &got) || got != mine {
			t.Error(depth, "not found again")
		}
	}
	deep := fault.At(2, fault.New(api.ErrGuard))
	for depth, err := range wraps(deep) {
		if !errors.Is(err, deep) {
			t.Error(depth, "not found again")
		}
		if err.Error() == "" {
			t.Error(depth, "no text")
		}
	}
}

// P1.5, P1.6
func TestStaysAsItIs(t *testing.T) {
	err := fault.At(7, fault.In("a", fault.Bound(1, 2, fault.New(api.ErrOver))))
	before := tells(err)
	for _, outer := range wraps(err) {
		if fault.Code(outer) != api.ErrOver {
			t.Error("Code of what wraps it", fault.Code(outer))
		}
		fault.First(outer, err)
	}
	for i := range fault.Trail(err) {
		fault.Trail(err)[i] = "written into"
	}
	if tells(err) != before {
		t.Error("changed to", tells(err), "from", before)
	}
}

// tells is all that the package tells of an error.
func tells(err error) string {
	a, b, ok := fault.Limit(err)
	return fmt.Sprint(fault.Code(err), fault.Place(err), fault.Trail(err), a, b, ok, fault.Depth(err), err)
}

// hostile errors: their methods panic, claim what is not, or go round in a circle.
type panics struct{}

func (*panics) Error() string    { panic("Error") }
func (*panics) Unwrap() error    { panic("Unwrap") }
func (*panics) As(any) bool      { panic("As") }
func (p *panics) Is(error) bool  { panic("Is") }
func (l liar) Error() string     { return "liar" }
func (l liar) As(any) bool       { return true }
func (l liar) Is(error) bool     { return true }
func (c *circle) Error() string  { return "circle" }
func (c *circle) Unwrap() error  { return c.next }
func (v valued) Error() string   { return v.s }
func (v valued) Unwrap() error   { return v.err }
func (j joined) Error() string   { return "joined" }
func (j joined) Unwrap() []error { return j }

type (
	liar   struct{}
	circle struct{ next error }
	valued struct {
		s   string
		err error
	}
	joined []error
)

// P1
func TestHostile(t *testing.T) {
	round := &circle{}
	round.next = fault.At(1, round)
	self := &circle{}
	self.next = self
	for name, err := range map[string]error{
		"panics": &panics{}, "nil panics": (*panics)(nil), "liar": liar{}, "circle": self, "circle with a fault": round,
		"nil with a method of values": (*valued)(nil), "not to be compared": odd{[]int{1}}, "joined": joined{nil, errors.New("x")},
	} {
		for depth, e := range []error{err, fault.In("a", err), fault.In("a", fault.In("b", err))} {
			if fault.Code(e) != api.ErrArg || !fault.Is(e, api.ErrArg) || fault.Is(e, api.ErrForm) {
				t.Error(name, depth, "Code", fault.Code(e))
			}
			if _, _, ok := fault.Limit(e); ok {
				t.Error(name, depth, "Limit")
			}
			if l := fault.Trail(e); len(l) != depth && name != "circle" && name != "circle with a fault" {
				t.Error(name, depth, "Trail", l)
			}
			fault.Place(e)
			if fault.Depth(e) < depth+1 {
				t.Error(name, depth, "Depth", fault.Depth(e))
			}
			if depth > 0 && e.Error() == "" {
				t.Error(name, depth, "no text")
			}
		}
	}
	if a, b := fault.At(1, odd{[]int{1}}), fault.At(1, odd{[]int{1}}); errors.Is(a, b) {
		t.Error("two faults of errors that can't be compared are one")
	}
}
