package week

import (
	"math"
	"testing"
)

func TestFirstOfYearsAtTheEnds(t *testing.T) { // P10.2
	for _, x := range []struct {
		y    int
		want [7]int
	}{
		{0, [7]int{-364, -363, -369, -368, -367, -366, -365}},                          // its fourth of January is day -363, a Tuesday
		{1, [7]int{0, 1, 2, 3, -3, -2, -1}},                                            // day 3, a Thursday
		{2, [7]int{364, 365, 366, 367, 368, 362, 363}},                                 // day 368, a Friday
		{9998, [7]int{3651326, 3651327, 3651328, 3651329, 3651330, 3651331, 3651332}},  // day 3651332, a Sunday
		{9999, [7]int{3651697, 3651691, 3651692, 3651693, 3651694, 3651695, 3651696}},  // day 3651697, a Monday
		{10000, [7]int{3652061, 3652062, 3652056, 3652057, 3652058, 3652059, 3652060}}, // day 3652062, a Tuesday
		{10001, [7]int{3652425, 3652426, 3652427, 3652428, 3652422, 3652423, 3652424}}, // day 3652428, a Thursday
	} {
		for wkst, want := range x.want {
			if first := First(x.y, wkst); first != want {
				t.Errorf("First(%d, %s): %d, not %d", x.y, names[wkst], first, want)
			}
		}
	}
}

func TestFirstOfKnownYears(t *testing.T) { // P10.2
	for _, x := range []struct{ y, wkst, month, d int }{
		// By ISO 8601.
		{2004, 0, -12, 29}, {2005, 0, 1, 3}, {2006, 0, 1, 2}, {2007, 0, 1, 1}, {2008, 0, -12, 31}, {2009, 0, -12, 29},
		{2010, 0, 1, 4}, {2015, 0, -12, 29}, {2020, 0, -12, 30}, {2021, 0, 1, 4}, {2026, 0, -12, 29},
		// With weeks from Sunday and from Saturday.
		{1997, 6, -12, 29}, {2021, 6, 1, 3}, {2026, 6, 1, 4}, {2022, 5, 1, 1}, {2021, 5, 1, 2}, {2020, 5, 1, 4},
	} {
		want := day(x.y, 1, x.d)
		if x.month == -12 {
			want = day(x.y-1, 12, x.d)
		}
		if first := First(x.y, x.wkst); first != want {
			t.Errorf("First(%d, %s): %d, not %d", x.y, names[x.wkst], first, want)
		}
	}
}

func TestFirstOfAllYears(t *testing.T) { // P10.2
	for y, n := range january()[:10002] {
		for wkst := range 7 {
			if first, want := First(y, wkst), plainBegin(n+3, wkst); first != want {
				t.Fatalf("First(%d, %s): %d, not %d", y, names[wkst], first, want)
			}
		}
	}
}

func TestWeeksOfYearsAtTheEnds(t *testing.T) { // P10.2
	for _, x := range []struct {
		y    int
		want [7]int
	}{
		{0, [7]int{52, 52, 53, 53, 52, 52, 52}},
		{1, [7]int{52, 52, 52, 52, 53, 52, 52}},
		{9998, [7]int{53, 52, 52, 52, 52, 52, 52}},
		{9999, [7]int{52, 53, 52, 52, 52, 52, 52}},
		{10000, [7]int{52, 52, 53, 53, 52, 52, 52}},
	} {
		for wkst, want := range x.want {
			if weeks := Weeks(x.y, wkst); weeks != want {
				t.Errorf("Weeks(%d, %s): %d, not %d", x.y, names[wkst], weeks, want)
			}
		}
	}
}

func TestWeeksOfKnownYears(t *testing.T) { // P10.2
	// By ISO 8601, these of 400 years have 53 weeks.
	long := []int{4, 9, 15, 20, 26, 32, 37, 43, 48, 54, 60, 65, 71, 76, 82, 88, 93, 99,
		105, 111, 116, 122, 128, 133, 139, 144, 150, 156, 161, 167, 172, 178, 184, 189, 195,
		201, 207, 212, 218, 224, 229, 235, 240, 246, 252, 257, 263, 268, 274, 280, 285, 291, 296,
		303, 308, 314, 320, 325, 331, 336, 342, 348, 353, 359, 364, 370, 376, 381, 387, 392, 398}
	want := map[int]int{}
	for _, y := range long {
		want[y] = 53
	}
	for y := 0; y <= 10000; y++ {
		if weeks := Weeks(y, 0); weeks != max(52, want[y%400]) {
			t.Errorf("Weeks(%d, Monday): %d", y, weeks)
		}
	}
}

// Leap years and others, with each wkst, have as many weeks as they have days that are the fourth of their week.
func TestWeeksOfAllYears(t *testing.T) { // P10.2
	seen := map[[2]int]int{}
	for y, n := range january()[:10001] {
		for wkst := range 7 {
			fourths := 0
			for m := range plainDays(y) {
				if plainWeekday(n+m) == (wkst+3)%7 {
					fourths++
				}
			}
			if weeks := Weeks(y, wkst); weeks != fourths {
				t.Fatalf("Weeks(%d, %s): %d, not %d", y, names[wkst], weeks, fourths)
			}
			seen[[2]int{plainDays(y), fourths}]++
		}
	}
	if len(seen) != 4 {
		t.Errorf("not both lengths of both kinds of years: %v", seen)
	}
}

func TestNoYear(t *testing.T) { // P10.2
	for wkst := range 7 {
		for _, y := range append(noYears(), -1, 10002, math.MinInt, math.MaxInt) {
			if first := First(y, wkst); first != 0 {
				t.Errorf("First(%d, %s): %d", y, names[wkst], first)
			}
			if weeks := Weeks(y, wkst); weeks != 0 {
				t.Errorf("Weeks(%d, %s): %d", y, names[wkst], weeks)
			}
		}
		if weeks := Weeks(10001, wkst); weeks != 0 {
			t.Errorf("Weeks(10001, %s): %d", names[wkst], weeks)
		}
	}
}

func TestYearsOfNoWeekday(t *testing.T) { // P10.2
	for _, wkst := range noWeekdays() {
		for _, y := range []int{0, 1, 2, 4, 400, 1900, 1970, 2000, 2020, 2021, 9998, 9999, 10000, 10001, 10002, -1, math.MinInt, math.MaxInt} {
			if first := First(y, wkst); first != 0 {
				t.Errorf("First(%d, %d): %d", y, wkst, first)
			}
			if weeks := Weeks(y, wkst); weeks != 0 {
				t.Errorf("Weeks(%d, %d): %d", y, wkst, weeks)
			}
		}
	}
}
