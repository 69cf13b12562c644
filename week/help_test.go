package week

import (
	"math"
	"testing"
)

const lastDay = 3652058

// names are the weekdays', told where a test fails.
var names = [7]string{"Monday", "Tuesday", "Wednesday", "Thursday", "Friday", "Saturday", "Sunday"}

// oddInts are far from all years, days and weekdays. Cut off to 8, 16 or 32 bits, many of them would be some.
var oddInts = []int{math.MinInt, math.MinInt + 1, math.MinInt + 6, math.MinInt + 2000, math.MinInt32 - 1, math.MinInt32,
	math.MinInt32 + 1, -1 << 32, -1<<32 + 1, -1<<32 + 4, -1<<32 + 2000, -1 << 16, -1<<16 + 1, -1<<16 + 4, -1<<16 + 2000,
	1 << 23, 1 << 24, 1<<24 + 1, 1<<24 + 2000, math.MaxInt32 - 1, math.MaxInt32, 1 << 31, 1<<31 + 4,
	1 << 32, 1<<32 + 1, 1<<32 + 2, 1<<32 + 4, 1<<32 + 6, 1<<32 + 2000, 1<<32 + lastDay, 1<<33 + 1, 1<<48 + 4, 1<<62 + 1, 1<<62 + 2000,
	math.MaxInt - 2000, math.MaxInt - 6, math.MaxInt - 1, math.MaxInt}

// noWeekdays are ints that are no wkst.
func noWeekdays() []int {
	l := append([]int{1<<16 - 1, 1 << 16, 1<<16 + 1, 1<<16 + 6}, oddInts...)
	for i := range 300 {
		l = append(l, -1-i, 7+i)
	}
	return l
}

// noDays are ints that are no day.
func noDays() []int {
	l := append([]int{-719162, -146097, -lastDay - 1, -lastDay, 2 * lastDay, lastDay + 146097, 400 * lastDay}, oddInts...)
	for i := range 400 {
		l = append(l, -1-i, lastDay+1+i)
	}
	return l
}

// noYears are ints that are neither a year, nor one of those that stand around all years.
func noYears() []int {
	l := append([]int{-2000, -9999, -10000, 10400, 12000, 20000, 99999, 719162, 3652059}, oddInts...)
	for i := range 410 {
		l = append(l, -1-i, 10002+i)
	}
	return l
}

// plainDays is how many days a year has; the years 0 and 10000 are leap years.
func plainDays(y int) int {
	switch {
	case y%400 == 0:
		return 366
	case y%100 == 0:
		return 365
	case y%4 == 0:
		return 366
	}
	return 365
}

// january is the first of January of each of the years 0 to 10002: that of the year 1 is day 0.
func january() []int {
	l := []int{-plainDays(0)}
	for y := 0; y <= 10001; y++ {
		l = append(l, l[y]+plainDays(y))
	}
	return l
}

// plainWeekday is a day's weekday, or that of what would be a day ahead of all or behind them: day 0 is a Monday.
func plainWeekday(n int) int {
	for n < 0 {
		n += 7
	}
	return n % 7
}

// plainBegin goes back from a day, one by one, to the one that is the wkst.
func plainBegin(n, wkst int) int {
	for plainWeekday(n) != wkst {
		n--
	}
	return n
}

// A shown week is one as the chapter's words have it.
type shown struct {
	begin, year, number, back int
}

// plainWeeks are all weeks of the years 0 to 10000, in order: one that has a fourth of January is the first of its year.
func plainWeeks(wkst int) []shown {
	firsts := january()
	var l []shown
	y, begin := -1, plainBegin(firsts[0]+3, wkst)
	for ; ; begin += 7 {
		if fourth := firsts[y+1] + 3; begin <= fourth && fourth < begin+7 {
			y++
			countBack(l)
			if y == 10001 {
				return l
			}
			l = append(l, shown{begin: begin, year: y, number: 1})
			continue
		}
		l = append(l, shown{begin: begin, year: y, number: l[len(l)-1].number + 1})
	}
}

// countBack numbers the weeks of the last year from its end.
func countBack(l []shown) {
	for i := len(l) - 1; i >= 0 && l[i].back == 0; i-- {
		l[i].back = i - len(l)
	}
}

// checkDay asks for a day's week.
func checkDay(t *testing.T, n, wkst int, s shown) {
	t.Helper()
	if begin := Begin(n, wkst); begin != s.begin {
		t.Fatalf("Begin(%d, %s): %d, not %d", n, names[wkst], begin, s.begin)
	}
	if y, number := Number(n, wkst); y != s.year || number != s.number {
		t.Fatalf("Number(%d, %s): %d, %d, not %d, %d", n, names[wkst], y, number, s.year, s.number)
	}
	if back := Back(n, wkst); back != s.back {
		t.Fatalf("Back(%d, %s): %d, not %d", n, names[wkst], back, s.back)
	}
}

// checkNoDay asks for the week of what has none.
func checkNoDay(t *testing.T, n, wkst int) {
	t.Helper()
	if begin := Begin(n, wkst); begin != 0 {
		t.Errorf("Begin(%d, %d): %d", n, wkst, begin)
	}
	if y, number := Number(n, wkst); y != 0 || number != 0 {
		t.Errorf("Number(%d, %d): %d, %d", n, wkst, y, number)
	}
	if back := Back(n, wkst); back != 0 {
		t.Errorf("Back(%d, %d): %d", n, wkst, back)
	}
}

// day is a date's day, by the plain calendar.
func day(y, m, d int) int {
	n := january()[y] + d - 1
	for x := 1; x < m; x++ {
		n += [13]int{0, 31, plainDays(y) - 337, 31, 30, 31, 30, 31, 31, 30, 31, 30, 31}[x]
	}
	return n
}
