package fault

import (
	"math"
	"testing"

	"errand/api"
)

// P13.3
func TestTellsOfNil(t *testing.T) {
	checkNil(t, nil)
	checkNil(t, New(api.OK, 7))
	checkNil(t, In(nil, 7))
}

// P13.3
func TestTellsOfOneFault(t *testing.T) {
	for _, e := range wrongNumbers() {
		for _, at := range places {
			err := New(e, at)
			if Code(err) != e || Place(err) != at || Depth(err) != 1 {
				t.Errorf("New(%d, %d): code %d, place %d, depth %d", e, at, Code(err), Place(err), Depth(err))
			}
		}
	}
}

// P13.3
func TestTellsOfMany(t *testing.T) {
	for _, c := range []struct {
		at  []int
		sum int
	}{
		{[]int{10, 3}, 13}, {[]int{3, 10}, 13}, {[]int{0, 0}, 0}, {[]int{0, 5}, 5}, {[]int{5, 0}, 5}, {[]int{-5, 5}, 0}, {[]int{5, -5}, 0},
		{[]int{1, -2}, -1}, {[]int{-1, -2}, -3}, {[]int{-2, 1}, -1}, {[]int{7, 7}, 14}, {[]int{7, 7, 7}, 21}, {[]int{1, 20, 300}, 321},
		{[]int{300, 20, 1}, 321}, {[]int{0, 0, 0, 0}, 0}, {[]int{0, 0, 9, 0}, 9}, {[]int{-6000, 6000, 1}, 1}, {[]int{1, 2, 3, -6}, 0},
		{[]int{math.MaxInt, 0}, math.MaxInt}, {[]int{0, math.MaxInt}, math.MaxInt}, {[]int{math.MinInt, 0}, math.MinInt},
		{[]int{math.MaxInt - 1, 1}, math.MaxInt}, {[]int{math.MinInt + 1, -1}, math.MinInt}, {[]int{math.MaxInt, math.MinInt}, -1},
		{[]int{math.MinInt, math.MaxInt}, -1}, {[]int{math.MaxInt, -math.MaxInt}, 0}, {[]int{1 << 32, 1}, 1<<32 + 1}, {[]int{1 << 31, 1 << 31}, 1 << 32},
		{[]int{math.MaxInt, 1, -1}, math.MaxInt}, {[]int{1, math.MaxInt, -1}, math.MaxInt}, {[]int{math.MinInt, -1, 1}, math.MinInt},
		{[]int{math.MaxInt, math.MaxInt, math.MinInt, math.MinInt}, -2}, {[]int{math.MinInt, math.MinInt, math.MaxInt, math.MaxInt}, -2},
	} {
		for _, e := range wrongNumbers() {
			err := chain(e, c.at...)
			if Code(err) != e || Place(err) != c.sum || Depth(err) != len(c.at) {
				t.Errorf("number %d, places %v: code %d, place %d, depth %d", e, c.at, Code(err), Place(err), Depth(err))
			}
			checkChain(t, err, e, c.at...)
		}
	}
}

// P13.3: one place alone tells, at whatever depth it stands.
func TestTellsOfJustOnePlace(t *testing.T) {
	for depth := 1; depth <= 40; depth++ {
		for i := range depth {
			for _, by := range []int{1, -1, 6000, math.MaxInt, math.MinInt} {
				at := make([]int, depth)
				at[i] = by
				err := chain(api.ErrText, at...)
				if Code(err) != api.ErrText || Place(err) != by || Depth(err) != depth {
					t.Fatalf("places %v: code %d, place %d, depth %d", at, Code(err), Place(err), Depth(err))
				}
			}
		}
	}
}

// P13.3: of a number that no fault wraps there is the number alone.
func TestTellsOfNumberAlone(t *testing.T) {
	for _, e := range allNumbers() {
		if Code(e) != e || Place(e) != 0 || Depth(e) != 0 {
			t.Errorf("number %d: code %d, place %d, depth %d", e, Code(e), Place(e), Depth(e))
		}
	}
}

// P13.3: to ask changes nothing.
func TestTellingChangesNothing(t *testing.T) {
	at := []int{4, 0, -9, 12}
	err := chain(api.ErrRange, at...)
	for range 5 {
		checkChain(t, err, api.ErrRange, at...)
	}
}
