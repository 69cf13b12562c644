package span

import (
	"math"
	"math/rand"
	"regexp"
	"strconv"
	"testing"

	"errand/api"
)

// P12.2
func TestPrintEdges(t *testing.T) {
	for n, want := range map[int]string{
		1: "PT1S", 59: "PT59S", 60: "PT1M", 61: "PT1M1S", 119: "PT1M59S", 120: "PT2M", 3599: "PT59M59S", 3600: "PT1H", 3601: "PT1H1S", 3659: "PT1H59S",
		3660: "PT1H1M", 3661: "PT1H1M1S", 7200: "PT2H", 36000: "PT10H", 82800: "PT23H", 86340: "PT23H59M", 86399: "PT23H59M59S", 86400: "P1D",
		86401: "P1DT1S", 86460: "P1DT1M", 86461: "P1DT1M1S", 90000: "P1DT1H", 90001: "P1DT1H1S", 90060: "P1DT1H1M", 90061: "P1DT1H1M1S",
		172799: "P1DT23H59M59S", 172800: "P2D", 518400: "P6D", 604799: "P6DT23H59M59S", 604800: "P1W", 604801: "P7DT1S", 604860: "P7DT1M",
		608400: "P7DT1H", 691199: "P7DT23H59M59S", 691200: "P8D", 691201: "P8DT1S", 1209599: "P13DT23H59M59S", 1209600: "P2W", 1209601: "P14DT1S",
		1296000: "P15D", 6048000: "P10W", 31536000: "P365D", 31449600: "P52W", 1314020: "P15DT5H20S", 864000: "P10D", 8640000: "P100D",
		maxSpan: "P142857W", maxSpan - 1: "P999998DT23H59M59S", maxSpan - 60: "P999998DT23H59M", maxSpan - 3600: "P999998DT23H",
		maxSpan - 86399: "P999998DT1S", maxSpan - 86400: "P999998D", maxSpan - 86401: "P999997DT23H59M59S", maxSpan - 604800: "P142856W",
		100000 * 604800: "P100000W", 100000 * 86400: "P100000D",
	} {
		if s, no := Print(n); s != want || no != api.OK {
			t.Errorf("Print(%d): %q, %d, not %q", n, s, no, want)
		}
		if s, no := Print(-n); s != "-"+want || no != api.OK {
			t.Errorf("Print(%d): %q, %d, not %q", -n, s, no, "-"+want)
		}
	}
	if s, no := Print(0); s != "PT0S" || no != api.OK {
		t.Errorf("Print(0): %q, %d", s, no)
	}
}

// P12.2
func TestPrintRefuses(t *testing.T) {
	odd := append([]int{maxSpan + 1, -maxSpan - 1, maxSpan + 2, maxSpan + 60, maxSpan + 86400, -maxSpan - 86400, maxSpan + 604800, -maxSpan - 604800,
		2 * maxSpan, -2 * maxSpan, lastSec, -lastSec, 604800 << 30, math.MaxInt / 604800 * 604800, math.MinInt / 604800 * 604800}, oddInts...)
	for _, n := range odd {
		if s, no := Print(n); s != "" || no != api.ErrRange {
			t.Errorf("Print(%d): %q, %d", n, s, no)
		}
	}
	for i := 1; i < 700000; i += 7 {
		beyond, below := maxSpan+i, -maxSpan-i
		if s, no := Print(beyond); s != "" || no != api.ErrRange {
			t.Fatalf("Print(%d): %q, %d", beyond, s, no)
		}
		if s, no := Print(below); s != "" || no != api.ErrRange {
			t.Fatalf("Print(%d): %q, %d", below, s, no)
		}
	}
}

// P12.2
func TestPrintManySpans(t *testing.T) {
	for n := range 700000 {
		checkPrint(t, n)
		checkPrint(t, -n)
	}
	for days := 0; days <= 999999; days += 1 + days/3000 {
		for _, more := range []int{-1, 0, 1, 60, 3600} {
			checkPrint(t, days*86400+more)
			checkPrint(t, -days*86400-more)
		}
	}
	for _, n := range allSpans() {
		checkPrint(t, n)
	}
	r := rand.New(rand.NewSource(1202))
	for range 200000 {
		checkPrint(t, oftenSpan(r))
	}
}

// printedForm is the form of a text that is printed of another span than 0: no number is 0, and none has noughts ahead.
var printedForm = regexp.MustCompile(`\A(-?)P(?:([1-9][0-9]*)W|(?:([1-9][0-9]*)D)?(?:T(?:([1-9][0-9]?)H)?(?:([1-9][0-9]?)M)?(?:([1-9][0-9]?)S)?)?)\z`)

// P12.2
func TestPrintedTextsHaveNoIdleParts(t *testing.T) {
	check := func(n int) {
		s, no := Print(n)
		found := printedForm.FindStringSubmatch(s)
		if no != api.OK || found == nil || s[len(s)-1] == 'T' || s[len(s)-1] == 'P' {
			t.Fatalf("Print(%d): %q, %d", n, s, no)
		}
		var part [7]int
		for i := 2; i < 7; i++ {
			part[i], _ = strconv.Atoi(found[i])
		}
		sum := part[2]*604800 + part[3]*86400 + part[4]*3600 + part[5]*60 + part[6]
		if found[1] == "-" {
			sum = -sum
		}
		if sum != n || part[4] > 23 || part[5] > 59 || part[6] > 59 || (part[2] > 0) != (n%604800 == 0) {
			t.Fatalf("Print(%d): %q", n, s)
		}
	}
	for _, n := range allSpans() {
		if n != 0 {
			check(n)
		}
	}
	for n := 1; n <= maxSpan; n += 1 + n/997 + n/86400*3600 {
		check(n)
		check(-n)
	}
}
