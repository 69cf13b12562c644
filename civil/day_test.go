package civil

import (
	"math"
	"testing"

	"errand/api"
)

// knownDays were not worked out by this package, nor by its tests.
var knownDays = []struct {
	n int
	s shown
}{
	{0, shown{1, 1, 1, 0, 1}},
	{1, shown{1, 1, 2, 1, 2}},
	{6, shown{1, 1, 7, 6, 7}},
	{7, shown{1, 1, 8, 0, 8}},
	{30, shown{1, 1, 31, 2, 31}},
	{31, shown{1, 2, 1, 3, 32}},
	{58, shown{1, 2, 28, 2, 59}},
	{59, shown{1, 3, 1, 3, 60}},
	{364, shown{1, 12, 31, 0, 365}},
	{365, shown{2, 1, 1, 1, 1}},
	{1154, shown{4, 2, 29, 6, 60}},
	{1155, shown{4, 3, 1, 0, 61}},
	{1460, shown{4, 12, 31, 4, 366}},
	{1461, shown{5, 1, 1, 5, 1}},
	{36523, shown{100, 12, 31, 4, 365}},
	{36524, shown{101, 1, 1, 5, 1}},
	{146096, shown{400, 12, 31, 6, 366}},
	{146097, shown{401, 1, 1, 0, 1}},
	{577735, shown{1582, 10, 15, 4, 288}},
	{693595, shown{1900, 1, 1, 0, 1}},
	{719162, shown{1970, 1, 1, 3, 1}},
	{730119, shown{2000, 1, 1, 5, 1}},
	{730178, shown{2000, 2, 29, 1, 60}},
	{730179, shown{2000, 3, 1, 2, 61}},
	{730484, shown{2000, 12, 31, 6, 366}},
	{738944, shown{2024, 2, 29, 3, 60}},
	{3652058, shown{9999, 12, 31, 4, 365}},
}

func TestKnownDays(t *testing.T) { // P9.2, P9.3, P9.4
	for _, x := range knownDays {
		checkDay(t, x.n, x.s)
	}
}

func TestExample(t *testing.T) { // the chapter's example 1
	n, e := Day(1970, 1, 1)
	if n != 719162 || e != api.OK || Weekday(n) != 3 {
		t.Errorf("%d, %v, the weekday %d", n, e, Weekday(n))
	}
}

func TestDayAtTheEndsOfMonths(t *testing.T) { // P9.2
	for _, y := range someYears {
		n := plainFirst(y)
		for m := 1; m <= 12; m++ {
			length := plainLen(y, m)
			if day, e := Day(y, m, 1); day != n || e != api.OK {
				t.Errorf("Day(%d, %d, 1): %d, %v, not %d", y, m, day, e, n)
			}
			if day, e := Day(y, m, length); day != n+length-1 || e != api.OK {
				t.Errorf("Day(%d, %d, %d): %d, %v, not %d", y, m, length, day, e, n+length-1)
			}
			n += length
			for d := length + 1; d < length+40; d++ {
				checkNoDate(t, y, m, d)
			}
			for d := 0; d > -40; d-- {
				checkNoDate(t, y, m, d)
			}
		}
	}
}

func TestDayOfTheTwentyNinthOfFebruary(t *testing.T) { // P9.2
	n := 31 + 28
	for y := 1; y <= 9999; y++ {
		if plainLeap(y) {
			if day, e := Day(y, 2, 29); day != n || e != api.OK {
				t.Errorf("Day(%d, 2, 29): %d, %v, not %d", y, day, e, n)
			}
		} else {
			checkNoDate(t, y, 2, 29)
		}
		checkNoDate(t, y, 2, 30)
		n += plainDays(y)
	}
}

func TestDayOfNoYear(t *testing.T) { // P9.2
	for _, y := range noYears() {
		for _, m := range []int{-1, 0, 1, 2, 6, 12, 13, math.MinInt, math.MaxInt} {
			for _, d := range []int{-1, 0, 1, 28, 29, 31, 32, math.MinInt, math.MaxInt} {
				checkNoDate(t, y, m, d)
			}
		}
	}
	checkNoDate(t, 0, 12, 31)
	checkNoDate(t, 10000, 1, 1)
}

func TestDayOfNoMonth(t *testing.T) { // P9.2
	for _, y := range []int{1, 4, 1900, 2000, 2023, 9999} {
		for _, m := range noMonths() {
			for _, d := range []int{-1, 0, 1, 28, 31, 32, math.MinInt, math.MaxInt} {
				checkNoDate(t, y, m, d)
			}
		}
	}
}

func TestDayOfNoDayOfTheMonth(t *testing.T) { // P9.2
	for _, y := range []int{1, 4, 1900, 2000, 2023, 9999} {
		for m := 1; m <= 12; m++ {
			for _, d := range noMonths() {
				if d < 1 || d > plainLen(y, m) {
					checkNoDate(t, y, m, d)
				}
			}
		}
	}
}

func TestDateAtTheEndsOfYears(t *testing.T) { // P9.3, P9.4
	n := 0
	for y := 1; y <= 9999; y++ {
		checkDay(t, n, shown{y, 1, 1, n % 7, 1})
		n += plainDays(y)
		checkDay(t, n-1, shown{y, 12, 31, (n - 1) % 7, plainDays(y)})
	}
	if n != api.MaxDay+1 {
		t.Errorf("%d days in all", n)
	}
}

func TestDateOfEachDayOfSomeYears(t *testing.T) { // P9.3
	for _, y := range someYears {
		n := plainFirst(y)
		for m := 1; m <= 12; m++ {
			for d := 1; d <= plainLen(y, m); d++ {
				if gotY, gotM, gotD, e := Date(n); gotY != y || gotM != m || gotD != d || e != api.OK {
					t.Errorf("Date(%d): %d, %d, %d, %v, not %d, %d, %d", n, gotY, gotM, gotD, e, y, m, d)
				}
				n++
			}
		}
	}
}

func TestNoDay(t *testing.T) { // P9.3, P9.4
	for _, n := range []int{-1, api.MaxDay + 1, math.MinInt, math.MaxInt} {
		checkNoDay(t, n)
	}
	for _, n := range noDays() {
		checkNoDay(t, n)
	}
}

func TestWeekdaysGoOn(t *testing.T) { // P9.4
	if w := Weekday(0); w != 0 {
		t.Errorf("day 0: %d", w)
	}
	if w := Weekday(api.MaxDay); w != 4 {
		t.Errorf("the last day: %d", w)
	}
	for n := 1; n <= api.MaxDay; n++ {
		if w := Weekday(n); w != (Weekday(n-1)+1)%7 || w < 0 || w > 6 {
			t.Fatalf("Weekday(%d): %d, behind %d", n, w, Weekday(n-1))
		}
	}
}

func TestPlacesGoOn(t *testing.T) { // P9.4
	n := 0
	for y := 1; y <= 9999; y++ {
		for p := 1; p <= plainDays(y); p++ {
			if got := Place(n); got != p {
				t.Fatalf("Place(%d), of %d: %d, not %d", n, y, got, p)
			}
			n++
		}
	}
	if p := Place(api.MaxDay); p != 365 {
		t.Errorf("the last day: %d", p)
	}
}
