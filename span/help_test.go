package span

import (
	"fmt"
	"math"
	"math/rand"
	"regexp"
	"strings"
	"testing"

	"errand/api"
)

const (
	maxSpan = 86399913600
	lastSec = 315537897599
)

// oddInts are neither spans nor seconds. Cut off to 8, 16 or 32 bits, added or multiplied, many of them would be some.
var oddInts = []int{math.MinInt, math.MinInt + 1, math.MinInt + 86400, math.MinInt + maxSpan, math.MinInt + lastSec, -1 << 62, -1 << 48, -1 << 40,
	-1<<40 + 86400, -lastSec - maxSpan - 1, -lastSec - 1, 1 << 39, 1 << 40, 1<<40 + 1, 1<<40 + 86400, 1 << 48, 1<<48 + 1, 1 << 62, 1<<62 + 3600,
	math.MaxInt - lastSec, math.MaxInt - maxSpan, math.MaxInt - 86400, math.MaxInt - 1, math.MaxInt}

// goodSpans are spans from 0 on: the ends of all, and those around minutes, hours, days, weeks, and the widths of ints.
func goodSpans() []int {
	l := []int{0, 1, 2, 58, 59, 60, 61, 62, 119, 120, 121, 3540, 3541, 3599, 3600, 3601, 3659, 3660, 3661, 7199, 7200, 43200, 82800, 82801, 82860,
		86339, 86340, 86341, 86399, maxSpan - 604800, maxSpan - 86401, maxSpan - 86400, maxSpan - 86399, maxSpan - 3600, maxSpan - 60, maxSpan - 1, maxSpan}
	for _, n := range []int{1, 2, 6, 7, 8, 13, 14, 15, 49, 365, 7000, 99999, 100000, 142857, 700000, 999998} {
		l = append(l, n*86400-3600, n*86400-60, n*86400-1, n*86400, n*86400+1, n*86400+60, n*86400+3600, n*86400+86399)
	}
	for _, n := range []int{1 << 7, 1 << 8, 1 << 15, 1 << 16, 1 << 24, 1 << 31, 1 << 32, 1<<32 + 86400, 1 << 36} {
		l = append(l, n-1, n, n+1)
	}
	return l
}

// allSpans are the good ones and those as far below 0.
func allSpans() []int {
	l := goodSpans()
	for _, n := range l {
		l = append(l, -n)
	}
	return l
}

// spanForm is the form of a span's text, but that it lets a T be with nothing behind it.
var spanForm = regexp.MustCompile(`\A([+-]?)P(?:([0-9]{1,6})W|(?:([0-9]{1,6})D)?(T(?:([0-9]{1,6})H)?(?:([0-9]{1,6})M)?(?:([0-9]{1,6})S)?)?)\z`)

// plainParse is what the chapter says of a text.
func plainParse(s string) (int, api.Errno) {
	found := spanForm.FindStringSubmatch(s)
	if found == nil || strings.HasSuffix(s, "T") || strings.HasSuffix(s, "P") {
		return 0, api.ErrForm
	}
	n := 0
	for i, seconds := range map[int]int{2: 604800, 3: 86400, 5: 3600, 6: 60, 7: 1} {
		count := 0
		for _, digit := range []byte(found[i]) {
			count = count*10 + int(digit-48)
		}
		n += count * seconds
	}
	if found[1] == "-" {
		n = -n
	}
	if n < -maxSpan || n > maxSpan {
		return 0, api.ErrRange
	}
	return n, api.OK
}

// plainPrint is what the chapter says of a number, its parts taken away one behind the other.
func plainPrint(n int) (string, api.Errno) {
	text, rest := "P", n
	switch {
	case n < -maxSpan || n > maxSpan:
		return "", api.ErrRange
	case n == 0:
		return "PT0S", api.OK
	case n < 0:
		text, rest = "-P", -n
	}
	if weeks := rest / 604800; weeks*604800 == rest {
		return fmt.Sprintf("%s%dW", text, weeks), api.OK
	}
	ahead := ""
	for _, unit := range []struct {
		seconds int
		letter  string
	}{{86400, "D"}, {3600, "H"}, {60, "M"}, {1, "S"}} {
		count := rest / unit.seconds
		rest -= count * unit.seconds
		if count == 0 {
			continue
		}
		if unit.letter != "D" && ahead != "T" {
			text, ahead = text+"T", "T"
		}
		text = fmt.Sprintf("%s%d%s", text, count, unit.letter)
	}
	return text, api.OK
}

// plainAdd is what the chapter says of a second and a span.
func plainAdd(sec, n int) (int, api.Errno) {
	if sec < 0 || sec > lastSec || n < -maxSpan || n > maxSpan || sec+n < 0 || sec+n > lastSec {
		return 0, api.ErrRange
	}
	return sec + n, api.OK
}

// plainOffset is what the chapter says of an offset's text, going over it sign by sign.
func plainOffset(s string) (int, api.Errno) {
	if len(s) != 5 && len(s) != 7 || s[0] != 43 && s[0] != 45 {
		return 0, api.ErrForm
	}
	for _, b := range []byte(s[1:]) {
		if b < 48 || b > 57 {
			return 0, api.ErrForm
		}
	}
	l := []byte(s + "00")
	two := func(at int) int { return int(l[at]-48)*10 + int(l[at+1]-48) }
	n := two(1)*3600 + two(3)*60 + two(5)
	if two(1) >= 24 || two(3) >= 60 || two(5) >= 60 || l[0] == 45 && n == 0 {
		return 0, api.ErrRange
	}
	return n * (44 - int(l[0])), api.OK
}

// checkParse holds what is parsed of a text against the chapter's words.
func checkParse(t *testing.T, s string) {
	n, no := Parse(s)
	if want, wantNo := plainParse(s); n != want || no != wantNo {
		t.Helper()
		t.Fatalf("Parse(%q): %d, %d, not %d, %d", s, n, no, want, wantNo)
	}
}

// checkPrint holds what is printed of a number against the chapter's words.
func checkPrint(t *testing.T, n int) {
	s, no := Print(n)
	if want, wantNo := plainPrint(n); s != want || no != wantNo {
		t.Helper()
		t.Fatalf("Print(%d): %q, %d, not %q, %d", n, s, no, want, wantNo)
	}
}

// checkAdd holds a sum against the chapter's words.
func checkAdd(t *testing.T, sec, n int) {
	sum, no := Add(sec, n)
	if want, wantNo := plainAdd(sec, n); sum != want || no != wantNo {
		t.Helper()
		t.Fatalf("Add(%d, %d): %d, %d, not %d, %d", sec, n, sum, no, want, wantNo)
	}
}

// checkOffset holds what is parsed of an offset's text against the chapter's words.
func checkOffset(t *testing.T, s string) {
	n, no := ParseOffset(s)
	if want, wantNo := plainOffset(s); n != want || no != wantNo {
		t.Helper()
		t.Fatalf("ParseOffset(%q): %d, %d, not %d, %d", s, n, no, want, wantNo)
	}
}

// parses asks for a text's span.
func parses(t *testing.T, s string, want int) {
	t.Helper()
	if n, no := Parse(s); n != want || no != api.OK {
		t.Errorf("Parse(%q): %d, %d, not %d", s, n, no, want)
	}
}

// refuses asks for a text's error, beside which there is no span.
func refuses(t *testing.T, s string, want api.Errno) {
	t.Helper()
	if n, no := Parse(s); n != 0 || no != want {
		t.Errorf("Parse(%q): %d, %d, not %d", s, n, no, want)
	}
}

// signed is a text with each sign, and which of them makes it less than 0.
func signed(s string) map[string]int {
	return map[string]int{s: 1, "+" + s: 1, "-" + s: -1}
}

// oftenSpan is a number that is a span more often than not.
func oftenSpan(r *rand.Rand) int {
	switch r.Intn(8) {
	case 0:
		return int(r.Uint64())
	case 1:
		return int(r.Uint64()) >> r.Intn(64)
	case 2:
		return (r.Intn(1000003) - r.Intn(1000003)) * 86400
	case 3:
		return r.Intn(400000) - 200000 + (r.Intn(3)-1)*maxSpan
	case 4:
		return r.Intn(200000) - r.Intn(200000)
	}
	return r.Intn(maxSpan+1) - r.Intn(2)*maxSpan
}
