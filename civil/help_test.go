package civil

import (
	"iter"
	"math"
	"testing"

	"errand/api"
)

// shown is a day as the calendar shows it, counted one by one.
type shown struct {
	y, m, d        int
	weekday, place int
}

// someYears are leap years and others, with those at the ends of what a year is.
var someYears = []int{1, 2, 3, 4, 5, 96, 99, 100, 101, 104, 200, 300, 400, 401, 404, 1600, 1700, 1800, 1899, 1900, 1901, 1904,
	1970, 1996, 1999, 2000, 2001, 2023, 2024, 2100, 2400, 4000, 8000, 9600, 9900, 9996, 9998, 9999}

// oddInts are far from all years, months and days. Cut off to 8, 16 or 32 bits, many of them would be some.
var oddInts = []int{math.MinInt, math.MinInt + 1, math.MinInt + 4, math.MinInt + 2000, math.MinInt32 - 1, math.MinInt32,
	math.MinInt32 + 1, -1<<32 + 1, -1<<32 + 4, -1<<32 + 2000, -1<<16 + 1, -1<<16 + 4, -1<<16 + 2000,
	1<<16 - 1, 1<<16 + 1, 1<<16 + 4, 1<<16 + 2000, 1<<24 + 1, 1<<24 + 2000, math.MaxInt32 - 1, math.MaxInt32, 1 << 31, 1<<31 + 4,
	1 << 32, 1<<32 + 1, 1<<32 + 2, 1<<32 + 4, 1<<32 + 12, 1<<32 + 2000, 1<<32 + 3652058, 1<<33 + 1, 1<<48 + 4, 1<<62 + 1, 1<<62 + 2000,
	math.MaxInt - 2000, math.MaxInt - 3, math.MaxInt - 1, math.MaxInt}

// noYears are ints that are no year.
func noYears() []int {
	l := append([]int{0, -1, -2, -3, -4, -96, -100, -400, -1900, -2000, -9996, -9999, -10000, -12000, -400 * 146097,
		10000, 10001, 10004, 10096, 10100, 10400, 12000, 19999, 20000, 40000, 99999, 400 * 146097}, oddInts...)
	for i := range 256 {
		l = append(l, -i, 10000+i)
	}
	return l
}

// noMonths are ints that are no month.
func noMonths() []int {
	l := append([]int{}, oddInts...)
	for i := range 300 {
		l = append(l, -i, 13+i)
	}
	return l
}

// noDays are ints that are no day.
func noDays() []int {
	l := append([]int{-7, -28, -31, -365, -366, -1461, -36524, -146097, -719162, -api.MaxDay, -api.MaxDay - 1,
		api.MaxDay + 7, api.MaxDay + 31, api.MaxDay + 365, api.MaxDay + 366, api.MaxDay + 1461, api.MaxDay + 146097,
		2 * api.MaxDay, 400 * api.MaxDay, 4000000, 1<<22 + 1, 1<<24 + 1}, oddIntsBeyondDays()...)
	for i := range 400 {
		l = append(l, -1-i, api.MaxDay+1+i)
	}
	return l
}

// oddIntsBeyondDays leaves out those that are a day: days are more than years are.
func oddIntsBeyondDays() []int {
	var l []int
	for _, n := range oddInts {
		if n < 0 || n > api.MaxDay {
			l = append(l, n)
		}
	}
	return l
}

// plainLeap is the chapter's word for a leap year, and false of what is no year.
func plainLeap(y int) bool {
	switch {
	case y < 1 || y > 9999:
		return false
	case y%400 == 0:
		return true
	case y%100 == 0:
		return false
	}
	return y%4 == 0
}

// plainLen is the chapter's word for how long a month of a year is.
func plainLen(y, m int) int {
	switch m {
	case 2:
		if plainLeap(y) {
			return 29
		}
		return 28
	case 4, 6, 9, 11:
		return 30
	}
	return 31
}

func plainDays(y int) int {
	if plainLeap(y) {
		return 366
	}
	return 365
}

// plainFirst is a year's first day, all years ahead of it added.
func plainFirst(y int) int {
	n := 0
	for x := 1; x < y; x++ {
		n += plainDays(x)
	}
	return n
}

// allDays goes through the calendar from the first of January of the year 1, a Monday, one day after the other.
func allDays() iter.Seq2[int, shown] {
	return func(yield func(int, shown) bool) {
		n := 0
		for y := 1; y <= 9999; y++ {
			place := 0
			for m := 1; m <= 12; m++ {
				for d := 1; d <= plainLen(y, m); d++ {
					place++
					if !yield(n, shown{y: y, m: m, d: d, weekday: n % 7, place: place}) {
						return
					}
					n++
				}
			}
		}
	}
}

// checkDay asks for what there is, of a day and of its date.
func checkDay(t *testing.T, n int, s shown) {
	t.Helper()
	if y, m, d, e := Date(n); y != s.y || m != s.m || d != s.d || e != api.OK {
		t.Fatalf("Date(%d): %d, %d, %d, %v, not %d, %d, %d", n, y, m, d, e, s.y, s.m, s.d)
	}
	if day, e := Day(s.y, s.m, s.d); day != n || e != api.OK {
		t.Fatalf("Day(%d, %d, %d): %d, %v, not %d", s.y, s.m, s.d, day, e, n)
	}
	if w := Weekday(n); w != s.weekday {
		t.Fatalf("Weekday(%d), of %d, %d, %d: %d, not %d", n, s.y, s.m, s.d, w, s.weekday)
	}
	if p := Place(n); p != s.place {
		t.Fatalf("Place(%d), of %d, %d, %d: %d, not %d", n, s.y, s.m, s.d, p, s.place)
	}
}

// checkNoDate asks for the day of what is no date.
func checkNoDate(t *testing.T, y, m, d int) {
	t.Helper()
	if n, e := Day(y, m, d); n != 0 || e != api.ErrRange {
		t.Errorf("Day(%d, %d, %d): %d, %v", y, m, d, n, e)
	}
}

// checkNoDay asks for what there is of what is no day.
func checkNoDay(t *testing.T, n int) {
	t.Helper()
	if y, m, d, e := Date(n); y != 0 || m != 0 || d != 0 || e != api.ErrRange {
		t.Errorf("Date(%d): %d, %d, %d, %v", n, y, m, d, e)
	}
	if w := Weekday(n); w != -1 {
		t.Errorf("Weekday(%d): %d", n, w)
	}
	if p := Place(n); p != 0 {
		t.Errorf("Place(%d): %d", n, p)
	}
}
