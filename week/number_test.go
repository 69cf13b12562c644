package week

import (
	"math"
	"testing"
)

// checkNumber asks for the week of a day, told by its year, its number and its number from the year's end.
func checkNumber(t *testing.T, n, wkst, year, number, back int) {
	t.Helper()
	if y, k := Number(n, wkst); y != year || k != number {
		t.Errorf("Number(%d, %s): %d, %d, not %d, %d", n, names[wkst], y, k, year, number)
	}
	if b := Back(n, wkst); b != back {
		t.Errorf("Back(%d, %s): %d, not %d", n, names[wkst], b, back)
	}
}

func TestExample(t *testing.T) { // the chapter's example 1
	checkNumber(t, day(2021, 1, 1), 0, 2020, 53, -1)
}

func TestKnownNumbers(t *testing.T) { // P10.3
	// By ISO 8601.
	for _, x := range []struct{ y, m, d, year, number, back int }{
		{2005, 1, 1, 2004, 53, -1}, {2005, 1, 2, 2004, 53, -1}, {2005, 1, 3, 2005, 1, -52}, {2005, 12, 31, 2005, 52, -1},
		{2006, 1, 1, 2005, 52, -1}, {2006, 1, 2, 2006, 1, -52}, {2006, 12, 31, 2006, 52, -1},
		{2007, 1, 1, 2007, 1, -52}, {2007, 12, 30, 2007, 52, -1}, {2007, 12, 31, 2008, 1, -52},
		{2008, 1, 1, 2008, 1, -52}, {2008, 9, 26, 2008, 39, -14}, {2008, 12, 28, 2008, 52, -1},
		{2008, 12, 29, 2009, 1, -53}, {2008, 12, 31, 2009, 1, -53}, {2009, 1, 1, 2009, 1, -53},
		{2009, 12, 27, 2009, 52, -2}, {2009, 12, 28, 2009, 53, -1}, {2009, 12, 31, 2009, 53, -1},
		{2010, 1, 1, 2009, 53, -1}, {2010, 1, 3, 2009, 53, -1}, {2010, 1, 4, 2010, 1, -52},
		{1997, 5, 12, 1997, 20, -33}, {1998, 5, 11, 1998, 20, -34}, {1999, 5, 17, 1999, 20, -33},
		{2020, 2, 29, 2020, 9, -45}, {2020, 12, 31, 2020, 53, -1}, {2021, 1, 4, 2021, 1, -52},
		{2026, 11, 20, 2026, 47, -7}, {1, 1, 1, 1, 1, -52}, {9999, 12, 31, 9999, 52, -1},
	} {
		checkNumber(t, day(x.y, x.m, x.d), 0, x.year, x.number, x.back)
	}
}

func TestKnownNumbersOfOtherWeeks(t *testing.T) { // P10.3
	for _, x := range []struct{ wkst, y, m, d, year, number, back int }{
		{6, 2021, 1, 1, 2020, 53, -1}, {6, 2021, 1, 2, 2020, 53, -1}, {6, 2021, 1, 3, 2021, 1, -52},
		{6, 2019, 12, 28, 2019, 52, -1}, {6, 2019, 12, 29, 2020, 1, -53}, {6, 2020, 1, 4, 2020, 1, -53},
		{5, 2020, 1, 3, 2019, 53, -1}, {5, 2020, 1, 4, 2020, 1, -52}, {5, 2021, 1, 1, 2020, 52, -1}, {5, 2021, 1, 2, 2021, 1, -52},
		{3, 2020, 12, 31, 2021, 1, -52}, {3, 2020, 12, 30, 2020, 52, -1}, {3, 2021, 1, 7, 2021, 2, -51},
		{4, 2021, 1, 1, 2021, 1, -52}, {4, 2020, 12, 31, 2020, 52, -1},
		{1, 2020, 12, 28, 2020, 52, -1}, {1, 2020, 12, 29, 2021, 1, -53}, {1, 2021, 1, 4, 2021, 1, -53}, {1, 2021, 1, 5, 2021, 2, -52},
		{2, 2020, 12, 30, 2021, 1, -52}, {2, 2021, 1, 5, 2021, 1, -52}, {2, 2020, 12, 29, 2020, 52, -1},
	} {
		n := day(x.y, x.m, x.d)
		if wanted := plainBegin(day(x.year, 1, 4), x.wkst) + 7*(x.number-1); wanted != plainBegin(n, x.wkst) {
			t.Fatalf("this test is wrong of %v", x)
		}
		checkNumber(t, n, x.wkst, x.year, x.number, x.back)
	}
}

// Weeks from Tuesday, Wednesday or Thursday have the first days of the year 1 in a week of the year 0.
func TestFirstDaysOfTheYearOne(t *testing.T) { // P10.3
	first := [7]int{0, 1, 2, 3, 0, 0, 0}
	ahead := [7]int{0, 52, 53, 53, 0, 0, 0}
	back := [7]int{-52, -52, -52, -52, -53, -52, -52}
	for wkst := range 7 {
		for n := range 4 {
			if n < first[wkst] {
				checkNumber(t, n, wkst, 0, ahead[wkst], -1)
			} else {
				checkNumber(t, n, wkst, 1, 1, back[wkst])
			}
		}
	}
}

// Weeks from Wednesday, Thursday or Friday have the last days of the year 9999 in a week of the year 10000.
func TestLastDaysOfTheYear9999(t *testing.T) { // P10.3
	next := [7]int{lastDay + 1, lastDay + 1, lastDay - 2, lastDay - 1, lastDay, lastDay + 1, lastDay + 1}
	weeks := [7]int{52, 53, 52, 52, 52, 52, 52}
	back := [7]int{0, 0, -53, -53, -52, 0, 0}
	for wkst := range 7 {
		for n := lastDay - 3; n <= lastDay; n++ {
			if n < next[wkst] {
				checkNumber(t, n, wkst, 9999, weeks[wkst], -1)
			} else {
				checkNumber(t, n, wkst, 10000, 1, back[wkst])
			}
		}
	}
}

func TestDaysAroundTheEndsOfYears(t *testing.T) { // P10.3
	firsts := january()
	sooner, later := 0, 0
	for y := 2; y <= 9999; y++ {
		for wkst := range 7 {
			begin := plainBegin(firsts[y]+3, wkst)
			for n := firsts[y] - 4; n < firsts[y]+4; n++ {
				year, number := Number(n, wkst)
				switch back := Back(n, wkst); {
				case n >= begin && (year != y || number != 1):
					t.Fatalf("Number(%d, %s): %d, %d", n, names[wkst], year, number)
				case n < begin && (year != y-1 || number < 52 || number > 53 || back != -1):
					t.Fatalf("Number and Back (%d, %s): %d, %d, %d", n, names[wkst], year, number, back)
				case n < firsts[y] && year == y:
					later++
				case n >= firsts[y] && year < y:
					sooner++
				}
			}
		}
	}
	if sooner == 0 || later == 0 {
		t.Errorf("%d days of a week of the year ahead, %d of the next one", sooner, later)
	}
}

func TestBackOfTheFirstAndTheLastWeek(t *testing.T) { // P10.3
	for y, n := range january()[1:9999] {
		y++
		for wkst := range 7 {
			first, next := plainBegin(n+3, wkst), plainBegin(n+plainDays(y)+3, wkst)
			weeks := (next - first) / 7
			for i := range 7 {
				checkNumber(t, next-7+i, wkst, y, weeks, -1)
				if first+i >= 0 {
					checkNumber(t, first+i, wkst, y, 1, -weeks)
				}
			}
			checkNumber(t, next-8, wkst, y, weeks-1, -2)
			checkNumber(t, first+7, wkst, y, 2, 1-weeks)
		}
	}
}

func TestNoDay(t *testing.T) { // P10.1, P10.3
	for wkst := range 7 {
		for _, n := range append(noDays(), -1, lastDay+1, math.MinInt, math.MaxInt) {
			checkNoDay(t, n, wkst)
		}
	}
}

func TestDaysOfNoWeekday(t *testing.T) { // P10.1, P10.3
	for _, wkst := range noWeekdays() {
		for _, n := range []int{0, 1, 2, 3, 6, 7, 364, 719162, 737790, 737791, 737794, lastDay - 1, lastDay, lastDay + 1, -1, math.MinInt, math.MaxInt} {
			checkNoDay(t, n, wkst)
		}
	}
}
