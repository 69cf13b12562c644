package week

import (
	"math"
	"testing"
)

func TestBeginOfTheFirstDays(t *testing.T) { // P10.1
	for _, x := range []struct {
		n    int
		want [7]int
	}{
		{0, [7]int{0, -6, -5, -4, -3, -2, -1}},
		{1, [7]int{0, 1, -5, -4, -3, -2, -1}},
		{2, [7]int{0, 1, 2, -4, -3, -2, -1}},
		{3, [7]int{0, 1, 2, 3, -3, -2, -1}},
		{4, [7]int{0, 1, 2, 3, 4, -2, -1}},
		{5, [7]int{0, 1, 2, 3, 4, 5, -1}},
		{6, [7]int{0, 1, 2, 3, 4, 5, 6}},
		{7, [7]int{7, 1, 2, 3, 4, 5, 6}},
		{8, [7]int{7, 8, 2, 3, 4, 5, 6}},
		{13, [7]int{7, 8, 9, 10, 11, 12, 13}},
	} {
		for wkst, want := range x.want {
			if begin := Begin(x.n, wkst); begin != want {
				t.Errorf("Begin(%d, %s): %d, not %d", x.n, names[wkst], begin, want)
			}
		}
	}
}

func TestBeginOfTheLastDays(t *testing.T) { // P10.1
	// The last day is a Friday.
	for _, x := range []struct {
		n    int
		want [7]int
	}{
		{3652058, [7]int{3652054, 3652055, 3652056, 3652057, 3652058, 3652052, 3652053}},
		{3652057, [7]int{3652054, 3652055, 3652056, 3652057, 3652051, 3652052, 3652053}},
		{3652052, [7]int{3652047, 3652048, 3652049, 3652050, 3652051, 3652052, 3652046}},
	} {
		for wkst, want := range x.want {
			if begin := Begin(x.n, wkst); begin != want {
				t.Errorf("Begin(%d, %s): %d, not %d", x.n, names[wkst], begin, want)
			}
		}
	}
}

func TestBeginOfKnownDays(t *testing.T) { // P10.1
	// The first of January 1970, day 719162, was a Thursday.
	for wkst, want := range [7]int{719159, 719160, 719161, 719162, 719156, 719157, 719158} {
		if begin := Begin(719162, wkst); begin != want {
			t.Errorf("%s: %d, not %d", names[wkst], begin, want)
		}
	}
}

func TestBeginOfNoDay(t *testing.T) { // P10.1
	for wkst := range 7 {
		for _, n := range append(noDays(), -1, lastDay+1, math.MinInt, math.MaxInt) {
			if begin := Begin(n, wkst); begin != 0 {
				t.Errorf("Begin(%d, %s): %d", n, names[wkst], begin)
			}
		}
	}
}

func TestBeginOfNoWeekday(t *testing.T) { // P10.1
	for _, wkst := range noWeekdays() {
		for _, n := range []int{0, 1, 2, 3, 4, 5, 6, 7, 300, 719162, 719163, 719168, lastDay - 6, lastDay - 1, lastDay, -1, lastDay + 1,
			math.MinInt, math.MaxInt} {
			if begin := Begin(n, wkst); begin != 0 {
				t.Errorf("Begin(%d, %d): %d", n, wkst, begin)
			}
		}
	}
}

// A week begins on the wkst, at most six days ahead, and where its first day is a day, that one begins it, too.
func TestWhatBeginTells(t *testing.T) { // P10.1
	for wkst := range 7 {
		for n := 0; n <= lastDay; n += 11 {
			begin := Begin(n, wkst)
			if begin > n || begin < n-6 || plainWeekday(begin) != wkst {
				t.Fatalf("Begin(%d, %s): %d", n, names[wkst], begin)
			}
			if begin >= 0 && Begin(begin, wkst) != begin {
				t.Fatalf("Begin(%d, %s): %d", begin, names[wkst], Begin(begin, wkst))
			}
		}
	}
}
