package fault

import (
	"errors"
	"testing"

	"errand/api"
)

// P13.1
func TestNewOfOKIsNil(t *testing.T) {
	for _, at := range places {
		if err := New(api.OK, at); err != nil {
			t.Errorf("New(OK, %d): %v", at, err)
		}
	}
}

// P13.1
func TestNewOfEachNumber(t *testing.T) {
	for _, e := range wrongNumbers() {
		for _, at := range places {
			f := asFault(t, New(e, at))
			if f.At != at || f.Why != error(e) {
				t.Errorf("New(%d, %d): at %d, %v", e, at, f.At, f.Why)
			}
			if number, ok := f.Why.(api.Errno); !ok || number != e {
				t.Errorf("New(%d, %d): wraps a %T", e, at, f.Why)
			}
			checkChain(t, f, e, at)
		}
	}
}

// P13.1
func TestInOfNilIsNil(t *testing.T) {
	for _, by := range places {
		if err := In(nil, by); err != nil {
			t.Errorf("In(nil, %d): %v", by, err)
		}
		if err := In(In(New(api.OK, by), by), by); err != nil {
			t.Errorf("In of New(OK, %d): %v", by, err)
		}
	}
}

// P13.1
func TestInOfOneFault(t *testing.T) {
	for _, e := range wrongNumbers() {
		for _, at := range places {
			inner := New(e, at)
			for _, by := range places {
				outer := asFault(t, In(inner, by))
				if outer.At != by || outer.Why != inner || outer == inner {
					t.Fatalf("In(New(%d, %d), %d): at %d, %v", e, at, by, outer.At, outer.Why)
				}
			}
			checkChain(t, inner, e, at)
		}
	}
}

// P13.1, P13.3
func TestInOfFortyFaults(t *testing.T) {
	for _, e := range wrongNumbers() {
		for _, by := range []func(i int) int{
			func(i int) int { return 0 },
			func(i int) int { return i },
			func(i int) int { return -i },
			func(i int) int { return i*i%7 - 3 },
			func(i int) int { return places[i%len(places)] },
			func(i int) int { return places[(i*11+5)%len(places)] },
		} {
			at := make([]int, 41)
			for i := range at {
				at[i] = by(i)
			}
			checkChain(t, chain(e, at...), e, at...)
		}
	}
}

// P13.1: what is wrapped stays as it was, however often it is wrapped.
func TestWrappingChangesNothing(t *testing.T) {
	inner := chain(api.ErrLong, 5, -2)
	before, deeper := *asFault(t, inner), *asFault(t, errors.Unwrap(inner))
	one, two := In(inner, 10), In(inner, -20)
	checkChain(t, one, api.ErrLong, 10, 5, -2)
	checkChain(t, two, api.ErrLong, -20, 5, -2)
	checkChain(t, In(one, 1), api.ErrLong, 1, 10, 5, -2)
	checkChain(t, inner, api.ErrLong, 5, -2)
	if *asFault(t, inner) != before || *asFault(t, errors.Unwrap(inner)) != deeper {
		t.Errorf("now %v, and in it %v", inner, errors.Unwrap(inner))
	}
	if one == two || errors.Unwrap(one) != inner || errors.Unwrap(two) != inner {
		t.Errorf("%v and %v do not wrap the one fault", one, two)
	}
	same := In(inner, 10)
	if same == one {
		t.Errorf("wrapped twice it is one fault")
	}
	asFault(t, same).At = 77
	checkChain(t, one, api.ErrLong, 10, 5, -2)
}

// P13.1, rule 3: each answer is new.
func TestFaultsHaveNothingInCommon(t *testing.T) {
	for _, e := range wrongNumbers() {
		one, two := New(e, 3), New(e, 3)
		if one == two || errors.Is(one, two) || errors.Is(two, one) {
			t.Errorf("New(%d, 3) is one fault, twice", e)
		}
		f := asFault(t, one)
		f.At, f.Why = 9, api.OK
		checkChain(t, two, e, 3)
		checkChain(t, New(e, 3), e, 3)
	}
}

// P13.1: an error that is no fault of this package is kept as it is.
func TestInOfOtherErrors(t *testing.T) {
	other := errors.New("other")
	f := asFault(t, In(other, 4))
	if f.At != 4 || f.Why != other || Code(f) != api.OK || Place(f) != 4 || Depth(f) != 1 || f.Error() == "" || !errors.Is(f, other) {
		t.Errorf("%+v: code %d, place %d, depth %d", *f, Code(f), Place(f), Depth(f))
	}
	for _, n := range allNumbers() {
		if Is(f, n) || Is(other, n) {
			t.Errorf("another error is %d", n)
		}
	}
	var none *Fault
	for _, other := range []error{other, wrapper{nil}, wrapper{none}, wrapper{other}, listed{1, 2}} {
		if outer := asFault(t, In(other, -1)); outer.At != -1 || outer.Error() == "" || Code(outer) != api.OK || Place(outer) != -1 || Depth(outer) != 1 {
			t.Errorf("%T within -1: at %d", other, outer.At)
		}
	}
	for _, e := range wrongNumbers() {
		checkChain(t, In(e, 4), e, 4)
		checkChain(t, In(In(e, 4), -5), e, -5, 4)
	}
}

// wrapper is an error of another package that wraps any error.
type wrapper struct{ why error }

func (wrapper) Error() string { return "wrapped" }

func (w wrapper) Unwrap() error { return w.why }

// listed is an error whose values can't be held against each other.
type listed []int

func (listed) Error() string { return "listed" }
