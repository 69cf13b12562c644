package fault

import (
	"errors"
	"math"
	"testing"

	"errand/api"
)

// numbers are all of api but OK.
var numbers = []api.Errno{api.ErrNil, api.ErrArg, api.ErrCut, api.ErrForm, api.ErrLong, api.ErrNone, api.ErrFull, api.ErrRange, api.ErrState,
	api.ErrText, api.ErrKind, api.ErrThere, api.ErrSpent, api.ErrCycle, api.ErrDeep, api.ErrSum, api.ErrWait, api.ErrHeld, api.ErrTwice, api.ErrMany,
	api.ErrDown}

// oddNumbers are none of api. Cut off to 8, 16 or 32 bits, some of them would be OK, or others of them.
var oddNumbers = []api.Errno{22, 23, 100, 255, 256, 260, -1, -4, -256, 1 << 16, 1<<16 + 4, 1 << 32, 1<<32 + 4, -1 << 32, math.MaxInt, math.MinInt}

// places are those that the issue names, and some around the widths of ints.
var places = []int{0, 1, -1, 2, 3, -3, 10, 75, 6000, -6000, 127, 128, 255, 256, -129, 1 << 15, 1 << 16, 1 << 31, 1 << 32, 1<<32 + 1, -1 << 31,
	-1<<31 - 1, 1 << 53, 1<<53 + 1, 1 << 62, math.MaxInt - 1, math.MaxInt, math.MinInt + 1, math.MinInt}

func allNumbers() []api.Errno {
	return append(append([]api.Errno{api.OK}, numbers...), oddNumbers...)
}

// wrongNumbers are all but OK.
func wrongNumbers() []api.Errno { return allNumbers()[1:] }

// chain makes a fault at the last of the places, and the others around it, the first one outermost.
func chain(e api.Errno, at ...int) error {
	last := len(at) - 1
	err := New(e, at[last])
	for i := last - 1; i >= 0; i-- {
		err = In(err, at[i])
	}
	return err
}

// asFault tells the fault that an error is.
func asFault(t *testing.T, err error) *Fault {
	t.Helper()
	f, ok := err.(*Fault)
	if !ok || f == nil {
		t.Fatalf("%T, not a fault", err)
	}
	return f
}

// checkChain asks all that there is to ask of a fault that chain made, and of each one within it.
func checkChain(t *testing.T, err error, e api.Errno, at ...int) {
	t.Helper()
	for i := range at {
		checkOne(t, err, e, at[i:])
		f := asFault(t, err)
		if f.At != at[i] {
			t.Fatalf("number %d, places %v: fault %d is at %d", e, at, i, f.At)
		}
		if i == len(at)-1 {
			if f.Why != error(e) {
				t.Fatalf("number %d, places %v: the last one wraps %v", e, at, f.Why)
			}
			return
		}
		err = f.Why
	}
}

// checkOne asks all calls of a fault with those places, but does not go down to those within it.
func checkOne(t *testing.T, err error, e api.Errno, at []int) {
	t.Helper()
	sum := 0
	for _, by := range at {
		sum += by
	}
	if code, place, depth := Code(err), Place(err), Depth(err); code != e || place != sum || depth != len(at) {
		t.Fatalf("number %d, places %v: code %d, place %d, depth %d", e, at, code, place, depth)
	}
	f := asFault(t, err)
	if f.Unwrap() != f.Why || errors.Unwrap(err) != f.Why {
		t.Fatalf("number %d, places %v: unwrapped it is %v", e, at, f.Unwrap())
	}
	if err.Error() == "" {
		t.Fatalf("number %d, places %v: no text", e, at)
	}
	for _, n := range allNumbers() {
		if Is(err, n) != (n == e) || errors.Is(err, n) != (n == e) {
			t.Fatalf("number %d, places %v: is it %d? %v, %v", e, at, n, Is(err, n), errors.Is(err, n))
		}
	}
	var found *Fault
	var number api.Errno
	if !errors.As(err, &found) || found != f || !errors.As(err, &number) || number != e {
		t.Fatalf("number %d, places %v: found %v and %d", e, at, found, number)
	}
}

// checkNil asks all calls of what is no error.
func checkNil(t *testing.T, err error) {
	t.Helper()
	if code, place, depth := Code(err), Place(err), Depth(err); code != api.OK || place != 0 || depth != 0 {
		t.Errorf("of nil: code %d, place %d, depth %d", code, place, depth)
	}
	for _, n := range allNumbers() {
		if Is(err, n) != (n == api.OK) {
			t.Errorf("nil is %d: %v", n, Is(err, n))
		}
	}
	for _, by := range places {
		if outer := In(err, by); outer != nil {
			t.Errorf("nil within %d: %v", by, outer)
		}
	}
}
