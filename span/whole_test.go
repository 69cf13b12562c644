package span

import (
	"fmt"
	"math/rand"
	"sync"
	"testing"

	"errand/api"
)

// goesRound asks that what is printed of a span is parsed as it was, and, with a + ahead, as far from 0.
func goesRound(t *testing.T, n int) {
	s, no := Print(n)
	again, no2 := Parse(s)
	if again != n || no != api.OK || no2 != api.OK {
		t.Helper()
		t.Fatalf("Print(%d): %q, %d; Parse of it: %d, %d", n, s, no, again, no2)
	}
	if plus, no := Parse("+" + s); n >= 0 && (plus != n || no != api.OK) || n < 0 && (plus != 0 || no != api.ErrForm) {
		t.Helper()
		t.Fatalf("Parse(%q): %d, %d", "+"+s, plus, no)
	}
}

// P12.1, P12.2
func TestExamples(t *testing.T) {
	parses(t, "P15DT5H0M20S", 1314020)
	parses(t, "-P1W", -604800)
	if s, no := Print(1314020); s != "P15DT5H20S" || no != api.OK {
		t.Errorf("%q, %d", s, no)
	}
	if s, no := Print(-604800); s != "-P1W" || no != api.OK {
		t.Errorf("%q, %d", s, no)
	}
	parses(t, "P15DT5H20S", 1314020)
}

// P12.5
func TestSpansGoRound(t *testing.T) {
	for _, n := range allSpans() {
		goesRound(t, n)
	}
	for n := range 700000 {
		goesRound(t, n)
		goesRound(t, -n)
	}
	for days := 1; days <= 999999; days++ {
		goesRound(t, days*86400)
		goesRound(t, -days*86400)
	}
	for n := maxSpan - 100000; n <= maxSpan; n++ {
		goesRound(t, n)
		goesRound(t, -n)
	}
	r := rand.New(rand.NewSource(1205))
	for range 300000 {
		goesRound(t, r.Intn(maxSpan+1)-r.Intn(2)*maxSpan)
	}
}

// P12.4, P12.5
func TestAllOffsetsGoRound(t *testing.T) {
	n := 0
	for h := range 24 {
		for m := range 60 {
			for s := range 60 {
				digits := fmt.Sprintf("%02d%02d", h, m)
				if s > 0 {
					digits += fmt.Sprintf("%02d", s)
				}
				offsetGoesRound(t, n, "+"+digits)
				if n > 0 {
					offsetGoesRound(t, -n, "-"+digits)
				}
				n++
			}
		}
	}
	if n != 86400 {
		t.Errorf("%d offsets from 0 on", n)
	}
}

// offsetGoesRound asks for an offset's text, and for the offset of that text.
func offsetGoesRound(t *testing.T, n int, want string) {
	s, no := PrintOffset(n)
	if s != want || no != api.OK {
		t.Helper()
		t.Fatalf("PrintOffset(%d): %q, %d, not %q", n, s, no, want)
	}
	if again, no := ParseOffset(s); again != n || no != api.OK {
		t.Helper()
		t.Fatalf("ParseOffset(%q): %d, %d, not %d", s, again, no, n)
	}
}

// P12.1, P12.2, P12.4: what is parsed is printed as one text, however it was written.
func TestWhatIsParsedIsPrintedTheSame(t *testing.T) {
	for want, l := range map[string][]string{
		"PT0S": {"P0D", "-P0W", "+PT0H0M0S", "-P0DT0S"},
		"P1D":  {"PT24H", "PT1440M", "PT86400S", "P0DT23H59M60S", "+P000001D", "P1DT0H"},
		"P1W":  {"P7D", "PT168H", "P6DT24H", "+P000001W", "P7DT0S"},
		"-P1W": {"-P7D", "-PT168H", "-P6DT24H"},
		"PT1H": {"PT60M", "PT3600S", "PT59M60S", "PT1H0M", "P0DT1H"},
	} {
		for _, s := range l {
			n, no := Parse(s)
			if again, no2 := Print(n); again != want || no != api.OK || no2 != api.OK {
				t.Errorf("%q is %d, %d, printed %q, %d, not %q", s, n, no, again, no2, want)
			}
		}
	}
	for s, want := range map[string]string{"+000000": "+0000", "+010000": "+0100", "-013000": "-0130", "-0130": "-0130", "+013001": "+013001"} {
		n, no := ParseOffset(s)
		if again, no2 := PrintOffset(n); again != want || no != api.OK || no2 != api.OK {
			t.Errorf("%q is %d, %d, printed %q, %d, not %q", s, n, no, again, no2, want)
		}
	}
}

// Rule 4: what is asked at the same time, or ahead, changes no answer.
func TestAnswersHangOnArgumentsAlone(t *testing.T) {
	var all sync.WaitGroup
	wrong := make([]int, 8)
	for i := range wrong {
		all.Go(func() {
			r := rand.New(rand.NewSource(int64(1206 + i)))
			for range 10000 {
				n, sec := r.Intn(2*maxSpan+1)-maxSpan, r.Intn(lastSec+1)
				s, _ := Print(n)
				want, _ := plainPrint(n)
				again, no := Parse(s)
				_, no2 := Parse(s + "0")
				sum, no3 := Add(sec, n)
				wantSum, wantNo := plainAdd(sec, n)
				text, _ := PrintOffset(n % 86400)
				offset, no4 := ParseOffset(text)
				if s != want || again != n || no != api.OK || no2 != api.ErrForm || sum != wantSum || no3 != wantNo || offset != n%86400 || no4 != api.OK {
					wrong[i]++
				}
			}
		})
	}
	all.Wait()
	for i, n := range wrong {
		if n != 0 {
			t.Errorf("goroutine %d: %d wrong", i, n)
		}
	}
}
