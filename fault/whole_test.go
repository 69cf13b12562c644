package fault

import (
	"math/rand"
	"sync"
	"testing"

	"errand/api"
)

// P13.1, P13.3
func TestExample(t *testing.T) {
	err := In(New(api.ErrForm, 3), 10)
	if Code(err) != api.ErrForm || Place(err) != 13 || Depth(err) != 2 {
		t.Errorf("code %d, place %d, depth %d", Code(err), Place(err), Depth(err))
	}
	checkChain(t, err, api.ErrForm, 10, 3)
}

// randomChain tells a number, and the places of faults one within the other.
func randomChain(r *rand.Rand) (api.Errno, []int) {
	wrong := wrongNumbers()
	e := wrong[r.Intn(len(wrong))]
	if r.Intn(4) == 0 {
		e = api.Errno(1 + r.Intn(1000000))
	}
	at := make([]int, 1+r.Intn(12))
	for i := range at {
		switch r.Intn(4) {
		case 0:
			at[i] = places[r.Intn(len(places))]
		case 1:
			at[i] = int(r.Uint64())
		default:
			at[i] = r.Intn(6001) - 1000
		}
	}
	return e, at
}

// P13.1, P13.2, P13.3, P13.4
func TestRandomChains(t *testing.T) {
	r := rand.New(rand.NewSource(1301))
	for range 20000 {
		e, at := randomChain(r)
		checkChain(t, chain(e, at...), e, at...)
	}
}

// Rule 1: what is asked of very many faults ends as well.
func TestDeepChain(t *testing.T) {
	const depth = 1000000
	err := New(api.ErrSum, 1)
	for range depth - 1 {
		err = In(err, 3)
	}
	if Code(err) != api.ErrSum || Place(err) != 3*depth-2 || Depth(err) != depth || !Is(err, api.ErrSum) || Is(err, api.OK) {
		t.Errorf("code %d, place %d, depth %d", Code(err), Place(err), Depth(err))
	}
	if err.Error() == "" {
		t.Errorf("no text")
	}
}

// Rule 1: nothing panics where nothing is wrapped.
func TestEmptyFaults(t *testing.T) {
	var none *Fault
	for _, f := range []*Fault{{}, {At: 5}, {At: -5, Why: api.OK}, {At: 5, Why: none}} {
		if Code(f) != api.OK || Place(f) != f.At || Depth(f) != 1 || f.Unwrap() != f.Why || f.Error() == "" || Is(f, api.ErrNil) {
			t.Errorf("at %d: code %d, place %d, depth %d", f.At, Code(f), Place(f), Depth(f))
		}
		if outer := In(f, 2); Place(outer) != f.At+2 || Depth(outer) != 2 || outer.Error() == "" {
			t.Errorf("at %d: place %d, depth %d", f.At, Place(outer), Depth(outer))
		}
	}
}

// Rule 4: what is asked at the same time, or ahead, changes no answer.
func TestAnswersHangOnArgumentsAlone(t *testing.T) {
	shared := chain(api.ErrKind, 1, 2, 3)
	var all sync.WaitGroup
	wrong := make([]int, 8)
	for i := range wrong {
		all.Go(func() {
			r := rand.New(rand.NewSource(int64(1302 + i)))
			for range 5000 {
				e, at := randomChain(r)
				sum := 0
				for _, by := range at {
					sum += by
				}
				err, outer := chain(e, at...), In(shared, i)
				if Code(err) != e || Place(err) != sum || Depth(err) != len(at) || !Is(err, e) || err.Error() == "" ||
					Code(outer) != api.ErrKind || Place(outer) != 6+i || Depth(outer) != 4 || !Is(outer, api.ErrKind) || outer.Error() == "" {
					wrong[i]++
				}
			}
		})
	}
	all.Wait()
	for i, n := range wrong {
		if n != 0 {
			t.Errorf("goroutine %d: %d wrong", i, n)
		}
	}
	checkChain(t, shared, api.ErrKind, 1, 2, 3)
}
