package civil

import (
	"math/rand"
	"sync"
	"testing"

	"errand/api"
)

func TestAllDays(t *testing.T) { // P9.2, P9.3, P9.4, P9.5
	last := -1
	for n, s := range allDays() {
		checkDay(t, n, s)
		last = n
	}
	if last != api.MaxDay {
		t.Errorf("the last day is %d", last)
	}
}

// below tells whether a date is ahead of another one.
func below(y1, m1, d1, y2, m2, d2 int) bool {
	if y1 != y2 {
		return y1 < y2
	}
	if m1 != m2 {
		return m1 < m2
	}
	return d1 < d2
}

func TestDatesGoInOrder(t *testing.T) { // P9.5
	lastY, lastM, lastD, _ := Date(0)
	for n := 1; n <= api.MaxDay; n++ {
		y, m, d, e := Date(n)
		if e != api.OK || !below(lastY, lastM, lastD, y, m, d) {
			t.Fatalf("Date(%d): %d, %d, %d, %v, behind %d, %d, %d", n, y, m, d, e, lastY, lastM, lastD)
		}
		if day, e := Day(y, m, d); day != n || e != api.OK {
			t.Fatalf("Day of Date(%d): %d, %v", n, day, e)
		}
		lastY, lastM, lastD = y, m, d
	}
}

// Whatever stands as year, month and day of the month: those that Day takes are just the days that there are, in order.
func TestDaysGoInOrder(t *testing.T) { // P9.2, P9.5
	next := 0
	for y := -2; y <= 10002; y++ {
		for m := -1; m <= 14; m++ {
			for d := -1; d <= 33; d++ {
				n, e := Day(y, m, d)
				if e == api.ErrRange && n == 0 {
					continue
				}
				if e != api.OK || n != next {
					t.Fatalf("Day(%d, %d, %d): %d, %v, not %d", y, m, d, n, e, next)
				}
				if gotY, gotM, gotD, e := Date(n); gotY != y || gotM != m || gotD != d || e != api.OK {
					t.Fatalf("Date(%d): %d, %d, %d, %v, not %d, %d, %d", n, gotY, gotM, gotD, e, y, m, d)
				}
				next++
			}
		}
	}
	if next != api.MaxDay+1 {
		t.Errorf("%d dates in all", next)
	}
}

func TestFourHundredYearsOn(t *testing.T) { // P9.5
	for n, s := range allDays() {
		if s.y+400 > 9999 {
			break
		}
		later, e := Day(s.y+400, s.m, s.d)
		if later != n+146097 || e != api.OK || Weekday(later) != Weekday(n) || Place(later) != Place(n) {
			t.Fatalf("400 years behind %d, %d, %d: the day %d, %v, of the weekday %d", s.y, s.m, s.d, later, e, Weekday(later))
		}
		y, m, d, e := Date(n + 146097)
		if y != s.y+400 || m != s.m || d != s.d || e != api.OK {
			t.Fatalf("146097 days behind %d: %d, %d, %d, %v", n, y, m, d, e)
		}
	}
}

func TestFourHundredYearsAreWholeWeeks(t *testing.T) { // P9.1, P9.5
	sum := 0
	for y := 1; y <= 9999; y++ {
		sum += Days(y)
		if y > 400 {
			sum -= Days(y - 400)
		}
		if y >= 400 && (sum != 146097 || sum%7 != 0) {
			t.Fatalf("the 400 years up to %d have %d days", y, sum)
		}
	}
}

// randomInt is a small number, or one of any width, above 0 or below.
func randomInt(r *rand.Rand) int {
	switch r.Intn(4) {
	case 0:
		return r.Intn(40) - 4
	case 1:
		return r.Intn(12000) - 1000
	case 2:
		return r.Intn(api.MaxDay+200000) - 100000
	}
	return int(r.Uint64()) >> r.Intn(64)
}

func isPlainYear(y int) bool  { return 1 <= y && y <= 9999 }
func isPlainMonth(m int) bool { return 1 <= m && m <= 12 }

func TestAnyInts(t *testing.T) { // P9.1 to P9.4, rule 1
	r := rand.New(rand.NewSource(9))
	for range 400000 {
		y, m, d := randomInt(r), randomInt(r), randomInt(r)
		days, length := 0, 0
		if isPlainYear(y) {
			days = plainDays(y)
		}
		if isPlainYear(y) && isPlainMonth(m) {
			length = plainLen(y, m)
		}
		if Leap(y) != plainLeap(y) || Days(y) != days || Len(y, m) != length {
			t.Fatalf("the year %d, the month %d: %v, %d, %d", y, m, Leap(y), Days(y), Len(y, m))
		}
		if d < 1 || d > length {
			checkNoDate(t, y, m, d)
		} else if n, e := Day(y, m, d); n < 0 || n > api.MaxDay || e != api.OK {
			t.Fatalf("Day(%d, %d, %d): %d, %v", y, m, d, n, e)
		}
		if d < 0 || d > api.MaxDay {
			checkNoDay(t, d)
		} else if n, e := dayOfDate(d); n != d || e != api.OK {
			t.Fatalf("Day of Date(%d): %d, %v", d, n, e)
		}
	}
}

func dayOfDate(n int) (int, api.Errno) {
	y, m, d, e := Date(n)
	if e != api.OK {
		return 0, e
	}
	return Day(y, m, d)
}

// What was asked ahead tells nothing: the same answers come backwards, by leaps, and from several sides at once.
func TestAnswersHangOnArgumentsAlone(t *testing.T) { // rule 4
	ask := func() {
		for n := api.MaxDay; n >= 0; n -= 977 {
			m := n * 31 % (api.MaxDay + 1)
			checkNoDay(t, -1-m)
			if day, e := dayOfDate(m); day != m || e != api.OK || Weekday(n) != n%7 {
				t.Errorf("the day %d: %d, %v; the day %d: %d", m, day, e, n, Weekday(n))
			}
			if Leap(1900) || !Leap(2000) || Days(2001) != 365 || Len(2024, 2) != 29 || Place(730484) != 366 {
				t.Error("another answer the next time")
			}
		}
	}
	var w sync.WaitGroup
	for range 4 {
		w.Go(ask)
	}
	w.Wait()
}
