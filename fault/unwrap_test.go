package fault

import (
	"errors"
	"strconv"
	"testing"

	"errand/api"
)

// stranger is an error of another type, by whose method nothing else is wrapped.
type stranger struct{ n int }

func (s *stranger) Error() string { return strconv.Itoa(s.n) }

// P13.2
func TestUnwrapOfNilFault(t *testing.T) {
	var f *Fault
	if err := f.Unwrap(); err != nil {
		t.Errorf("%v", err)
	}
	if f.Error() == "" {
		t.Errorf("no text")
	}
}

// P13.2, P13.3, P13.4: a nil fault has nothing within it, wherever it is handed in.
func TestNilFaultIsNil(t *testing.T) {
	var f *Fault
	checkNil(t, f)
	for _, n := range wrongNumbers() {
		if errors.Is(f, n) {
			t.Errorf("it is %d", n)
		}
	}
	var number api.Errno
	if errors.As(f, &number) {
		t.Errorf("%d was found in it", number)
	}
}

// P13.2
func TestUnwrapOfNumber(t *testing.T) {
	for _, e := range wrongNumbers() {
		for _, at := range places {
			f := asFault(t, New(e, at))
			if why := f.Unwrap(); why != error(e) {
				t.Errorf("New(%d, %d): %v", e, at, why)
			}
			if again := errors.Unwrap(f.Unwrap()); again != nil {
				t.Errorf("New(%d, %d): within the number there is %v", e, at, again)
			}
		}
	}
}

// P13.2
func TestUnwrapOfFault(t *testing.T) {
	for _, e := range wrongNumbers() {
		inner := New(e, 3)
		middle := In(inner, 0)
		outer := In(middle, -10)
		if why := asFault(t, outer).Unwrap(); why != middle {
			t.Errorf("number %d: %v, not the middle one", e, why)
		}
		if why := asFault(t, middle).Unwrap(); why != inner {
			t.Errorf("number %d: %v, not the inner one", e, why)
		}
		if why := asFault(t, inner).Unwrap(); why != error(e) {
			t.Errorf("number %d: %v", e, why)
		}
	}
}

// P13.2: Unwrap tells Why, whatever it is by then.
func TestUnwrapTellsWhy(t *testing.T) {
	f := asFault(t, New(api.ErrForm, 3))
	for _, why := range []error{nil, api.OK, api.ErrCut, &stranger{4}, New(api.ErrLong, 7)} {
		f.Why = why
		if f.Unwrap() != why || errors.Unwrap(f) != why || f.Error() == "" {
			t.Errorf("%v, not %v", f.Unwrap(), why)
		}
	}
}

// P13.2: errors.Is finds each fault within, and nothing that is not within.
func TestErrorsIsFindsWhatIsWrapped(t *testing.T) {
	for _, e := range wrongNumbers() {
		all := []error{New(e, 1)}
		for i := range 40 {
			all = append(all, In(all[i], i%3-1))
		}
		for i, outer := range all {
			for j, inner := range all {
				if errors.Is(outer, inner) != (j <= i) {
					t.Fatalf("number %d: is fault %d within fault %d? %v", e, j, i, errors.Is(outer, inner))
				}
			}
			twin := &Fault{At: asFault(t, outer).At, Why: asFault(t, outer).Why}
			if errors.Is(outer, twin) || errors.Is(outer, nil) || errors.Is(outer, &stranger{1}) || errors.Is(outer, errors.ErrUnsupported) {
				t.Fatalf("number %d: fault %d is something else, too", e, i)
			}
			for _, n := range allNumbers() {
				if errors.Is(outer, n) != (n == e) {
					t.Fatalf("number %d: is fault %d of number %d? %v", e, i, n, errors.Is(outer, n))
				}
			}
		}
	}
}

// P13.2: errors.As finds the outermost fault, and the number, and nothing else.
func TestErrorsAsFindsTheOutermost(t *testing.T) {
	for _, e := range wrongNumbers() {
		var why error = e
		err := New(e, -1)
		for depth := range 41 {
			at := depth*7 - 100
			if depth == 0 {
				at = -1
			} else {
				why = err
				err = In(err, at)
			}
			var f *Fault
			if !errors.As(err, &f) || f != err || f.At != at || f.Why != why {
				t.Fatalf("number %d, depth %d: %v", e, depth+1, f)
			}
			var number api.Errno
			if !errors.As(err, &number) || number != e {
				t.Fatalf("number %d, depth %d: %d", e, depth+1, number)
			}
			other, wrong := &stranger{5}, &strconv.NumError{}
			if errors.As(err, &other) || other.n != 5 || errors.As(err, &wrong) {
				t.Fatalf("number %d, depth %d: another error was found", e, depth+1)
			}
		}
	}
}

// P13.2
func TestErrorsAsGoesThroughStrangers(t *testing.T) {
	at := &stranger{6}
	err := In(In(at, 2), 3)
	var found *stranger
	if !errors.As(err, &found) || found != at || Code(err) != api.OK || Place(err) != 5 || Depth(err) != 2 {
		t.Errorf("%v, code %d, place %d, depth %d", found, Code(err), Place(err), Depth(err))
	}
	var number api.Errno
	if errors.As(err, &number) {
		t.Errorf("%d was found", number)
	}
}

// P13.2
func TestErrorIsNeverEmpty(t *testing.T) {
	for _, e := range wrongNumbers() {
		for _, at := range places {
			err := New(e, at)
			for depth := range 42 {
				if err.Error() == "" {
					t.Fatalf("number %d at %d, depth %d: no text", e, at, depth+1)
				}
				err = In(err, at)
			}
		}
	}
}
