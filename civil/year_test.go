package civil

import (
	"math"
	"testing"
)

func TestLeapAndDaysOfKnownYears(t *testing.T) { // P9.1
	for _, x := range []struct {
		y    int
		leap bool
		days int
	}{
		{1, false, 365}, {2, false, 365}, {3, false, 365}, {4, true, 366}, {5, false, 365}, {8, true, 366}, {96, true, 366},
		{99, false, 365}, {100, false, 365}, {104, true, 366}, {200, false, 365}, {300, false, 365}, {400, true, 366},
		{500, false, 365}, {800, true, 366}, {1582, false, 365}, {1600, true, 366}, {1700, false, 365}, {1800, false, 365},
		{1900, false, 365}, {1904, true, 366}, {1996, true, 366}, {1999, false, 365}, {2000, true, 366}, {2001, false, 365},
		{2023, false, 365}, {2024, true, 366}, {2100, false, 365}, {2400, true, 366}, {4000, true, 366}, {8000, true, 366},
		{9200, true, 366}, {9600, true, 366}, {9900, false, 365}, {9996, true, 366}, {9998, false, 365}, {9999, false, 365},
		{0, false, 0}, {-1, false, 0}, {-3, false, 0}, {-4, false, 0}, {-100, false, 0}, {-400, false, 0}, {-2000, false, 0},
		{10000, false, 0}, {10001, false, 0}, {10004, false, 0}, {12000, false, 0},
		{math.MinInt, false, 0}, {math.MinInt + 1, false, 0}, {math.MaxInt - 3, false, 0}, {math.MaxInt, false, 0},
	} {
		if leap := Leap(x.y); leap != x.leap {
			t.Errorf("Leap(%d): %v", x.y, leap)
		}
		if days := Days(x.y); days != x.days {
			t.Errorf("Days(%d): %d, not %d", x.y, days, x.days)
		}
	}
}

func TestLeapAndDaysOfAllYears(t *testing.T) { // P9.1
	leaps := 0
	for y := 1; y <= 9999; y++ {
		if leap := Leap(y); leap != plainLeap(y) {
			t.Errorf("Leap(%d): %v", y, leap)
		}
		if days := Days(y); days != plainDays(y) {
			t.Errorf("Days(%d): %d", y, days)
		}
		if Leap(y) {
			leaps++
		}
	}
	// A fourth of 9999 is 2499; of those 99 are hundreds, and 24 of them are four hundreds.
	if leaps != 2499-99+24 {
		t.Errorf("%d leap years", leaps)
	}
}

func TestNoYearHasNothing(t *testing.T) { // P9.1
	for _, y := range noYears() {
		if Leap(y) {
			t.Errorf("Leap(%d)", y)
		}
		if days := Days(y); days != 0 {
			t.Errorf("Days(%d): %d", y, days)
		}
		for m := -1; m <= 14; m++ {
			if n := Len(y, m); n != 0 {
				t.Errorf("Len(%d, %d): %d", y, m, n)
			}
		}
	}
}

func TestLenOfKnownMonths(t *testing.T) { // P9.1
	common := [12]int{31, 28, 31, 30, 31, 30, 31, 31, 30, 31, 30, 31}
	leap := [12]int{31, 29, 31, 30, 31, 30, 31, 31, 30, 31, 30, 31}
	for _, x := range []struct {
		years []int
		lens  [12]int
	}{
		{[]int{1, 2, 3, 100, 200, 300, 1700, 1800, 1900, 1970, 2023, 2100, 9900, 9997, 9999}, common},
		{[]int{4, 96, 400, 1600, 1904, 1996, 2000, 2024, 2400, 4000, 8000, 9600, 9996}, leap},
	} {
		for _, y := range x.years {
			for i, n := range x.lens {
				if got := Len(y, i+1); got != n {
					t.Errorf("Len(%d, %d): %d, not %d", y, i+1, got, n)
				}
			}
		}
	}
}

func TestLenOfNoMonth(t *testing.T) { // P9.1
	for _, y := range append([]int{0, -4, 10000, math.MinInt, math.MaxInt}, someYears...) {
		for _, m := range noMonths() {
			if n := Len(y, m); n != 0 {
				t.Errorf("Len(%d, %d): %d", y, m, n)
			}
		}
	}
}

func TestMonthsMakeTheirYear(t *testing.T) { // P9.1
	for y := 1; y <= 9999; y++ {
		sum := 0
		for m := 1; m <= 12; m++ {
			n := Len(y, m)
			if n != plainLen(y, m) {
				t.Errorf("Len(%d, %d): %d", y, m, n)
			}
			sum += n
		}
		if sum != Days(y) {
			t.Errorf("the months of %d have %d days, Days tells %d", y, sum, Days(y))
		}
	}
}
