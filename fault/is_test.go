package fault

import (
	"errors"
	"testing"

	"errand/api"
)

// P13.4
func TestIsOfNil(t *testing.T) {
	if !Is(nil, api.OK) || !Is(New(api.OK, 3), api.OK) || !Is(In(nil, 3), api.OK) {
		t.Errorf("nil is not OK")
	}
	for _, e := range wrongNumbers() {
		if Is(nil, e) || Is(New(api.OK, 3), e) || Is(In(nil, 3), e) {
			t.Errorf("nil is %d", e)
		}
	}
}

// P13.4
func TestIsAtEachDepth(t *testing.T) {
	for _, e := range wrongNumbers() {
		err := New(e, 2)
		for depth := range 42 {
			if !Is(err, e) {
				t.Fatalf("number %d, depth %d: it is not", e, depth+1)
			}
			if Is(err, api.OK) {
				t.Fatalf("number %d, depth %d: it is OK", e, depth+1)
			}
			for _, other := range wrongNumbers() {
				if other != e && Is(err, other) {
					t.Fatalf("number %d, depth %d: it is %d", e, depth+1, other)
				}
			}
			err = In(err, depth%5-2)
		}
	}
}

// P13.4: places are no numbers.
func TestIsAsksOfNoPlace(t *testing.T) {
	for _, e := range wrongNumbers() {
		for _, n := range allNumbers() {
			err := In(New(e, int(n)), int(n))
			if Is(err, n) != (n == e) {
				t.Errorf("number %d at %d and %d: is it %d? %v", e, n, n, n, Is(err, n))
			}
		}
	}
}

// P13.4: the answer is the one of errors.Is, whatever the error is.
func TestIsAsErrorsIs(t *testing.T) {
	for _, err := range []error{api.OK, api.ErrForm, api.ErrDown, errors.New("other"), &stranger{3}, In(&stranger{4}, 4), In(api.OK, 1), In(api.ErrCut, 1),
		errors.Join(New(api.ErrForm, 3), New(api.ErrCut, 4)), In(errors.Join(api.ErrNone, New(api.ErrSum, 4)), 2), In(likeLong{}, 1), &Fault{At: 3}} {
		for _, n := range allNumbers() {
			if Is(err, n) != errors.Is(err, n) {
				t.Errorf("%v: is it %d? %v", err, n, Is(err, n))
			}
		}
	}
}

// likeLong is no number, but tells errors.Is that it is ErrLong.
type likeLong struct{}

func (likeLong) Error() string { return "long" }

func (likeLong) Is(target error) bool { return target == api.ErrLong }
