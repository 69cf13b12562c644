package moment

import (
	"fmt"
	"math"
	"testing"

	"errand/api"
)

const (
	lastDay = 3652058
	lastSec = 315537897599
)

// oddInts are far from all seconds. Cut off to 8, 16 or 32 bits, or multiplied, many of them would be some.
var oddInts = []int{math.MinInt, math.MinInt + 1, math.MinInt + 86399, math.MinInt + 86400, math.MinInt32 - 1, math.MinInt32,
	-1 << 62, -1 << 48, -1 << 40, -1 << 32, -1<<32 + 86400, -1 << 16, -1 << 8, -lastSec - 1, -lastSec, -86401, -86400, -86399, -2, -1,
	lastSec + 1, lastSec + 2, lastSec + 86400, lastSec + 86401, 2 * lastSec, 1 << 39, 1 << 40, 1<<40 + 86400, 1 << 48, 1<<48 + 1,
	1 << 62, 1<<62 + 86400, math.MaxInt - 86400, math.MaxInt - 86399, math.MaxInt - 1, math.MaxInt}

// kinds are those that a value may have.
var kinds = []uint8{Date, Local, UTC}

// goodSecs are seconds that there are: the ends of all, and those around the ends of days, months, years, and the widths of ints.
func goodSecs() []int {
	l := []int{0, 1, 2, 59, 60, 61, 3599, 3600, 3601, 43200, lastSec - 86400, lastSec - 86399, lastSec - 86398, lastSec - 1, lastSec}
	for _, n := range []int{1, 2, 30, 31, 58, 59, 60, 364, 365, 366, 1460, 1461, 36524, 146096, 146097, 719162, 729218, 738000, lastDay - 1, lastDay} {
		l = append(l, n*86400-1, n*86400, n*86400+1, n*86400+86399)
	}
	for _, n := range []int{1 << 8, 1 << 15, 1 << 16, 1 << 31, 1 << 32, 1<<32 + 86400, 1 << 36, 1 << 38} {
		l = append(l, n-1, n, n+1, n-n%86400)
	}
	return l
}

// A dated day is one of the plain calendar.
type dated struct {
	y, m, d int
}

func (a dated) text() string { return fmt.Sprintf("%04d%02d%02d", a.y, a.m, a.d) }

// monthDays is how many days a month has, or 0 of what is none.
func monthDays(y, m int) int {
	switch {
	case y < 1 || y > 9999:
		return 0
	case m == 4 || m == 6 || m == 9 || m == 11:
		return 30
	case m == 2 && (y%400 == 0 || y%4 == 0 && y%100 != 0):
		return 29
	case m == 2:
		return 28
	case m >= 1 && m <= 12:
		return 31
	}
	return 0
}

// calendar are all days that there are, walked one by one.
func calendar() []dated {
	l := make([]dated, 0, lastDay+1)
	for y := 1; y <= 9999; y++ {
		for m := 1; m <= 12; m++ {
			for d := 1; d <= monthDays(y, m); d++ {
				l = append(l, dated{y, m, d})
			}
		}
	}
	return l
}

// january is the first day of each of the years 1 to 9999.
func january() []int {
	l := []int{0, 0}
	for y := 1; y < 9999; y++ {
		n := l[y]
		for m := 1; m <= 12; m++ {
			n += monthDays(y, m)
		}
		l = append(l, n)
	}
	return l
}

var (
	days   = calendar()
	firsts = january()
)

// plainText is the text of a value that may be.
func plainText(kind uint8, sec int) string {
	text := days[sec/86400].text()
	if kind == Date {
		return text
	}
	text += fmt.Sprintf("T%02d%02d%02d", sec%86400/3600, sec%3600/60, sec%60)
	if kind == UTC {
		text += "Z"
	}
	return text
}

// plainCheck is what the chapter says of a value.
func plainCheck(kind uint8, sec int) api.Errno {
	switch {
	case kind == 0 || kind > 3:
		return api.ErrKind
	case sec < 0 || sec > lastSec:
		return api.ErrRange
	case kind == 1 && sec/86400*86400 != sec:
		return api.ErrArg
	}
	return api.OK
}

// plainForm tells the kind of a text's form, going over it sign by sign, or 0.
func plainForm(s string) uint8 {
	for i, b := range []byte(s) {
		digit := b >= 48 && b <= 57
		switch {
		case i == 8 && b != 84 || i == 15 && b != 90 || i > 15:
			return 0
		case i != 8 && i != 15 && !digit:
			return 0
		}
	}
	return map[int]uint8{8: 1, 15: 2, 16: 3}[len(s)]
}

// plainParse is what the chapter says of a text.
func plainParse(s string) (Value, api.Errno) {
	kind := plainForm(s)
	if kind == 0 {
		return Value{}, api.ErrForm
	}
	two := func(at int) int { return int(s[at]-48)*10 + int(s[at+1]-48) }
	y, m, d := two(0)*100+two(2), two(4), two(6)
	if d < 1 || d > monthDays(y, m) {
		return Value{}, api.ErrRange
	}
	n := firsts[y] + d - 1
	for ahead := 1; ahead < m; ahead++ {
		n += monthDays(y, ahead)
	}
	if kind == 1 {
		return Value{kind, n * 86400}, api.OK
	}
	if two(9) >= 24 || two(11) >= 60 || two(13) >= 60 {
		return Value{}, api.ErrRange
	}
	return Value{kind, ((n*24+two(9))*60+two(11))*60 + two(13)}, api.OK
}

// checkParse holds what is parsed of a text against the chapter's words.
func checkParse(t *testing.T, s string) {
	v, no := Parse(s)
	if want, wantNo := plainParse(s); v != want || no != wantNo {
		t.Helper()
		t.Fatalf("Parse(%q): %v, %d, not %v, %d", s, v, no, want, wantNo)
	}
}

// parses asks for a text's value.
func parses(t *testing.T, s string, want Value) {
	t.Helper()
	if v, no := Parse(s); v != want || no != api.OK {
		t.Errorf("Parse(%q): %v, %d, not %v", s, v, no, want)
	}
}

// refuses asks for a text's error, beside which there is no value.
func refuses(t *testing.T, s string, want api.Errno) {
	t.Helper()
	if v, no := Parse(s); v != (Value{}) || no != want {
		t.Errorf("Parse(%q): %v, %d, not %d", s, v, no, want)
	}
}
