package span

import (
	"fmt"
	"math/rand"
	"slices"
	"strings"
	"testing"

	"errand/api"
)

// P12.1
func TestParseSpans(t *testing.T) {
	for s, want := range map[string]int{
		"P15DT5H0M20S": 1314020, "P1W": 604800, "P7W": 7 * 604800, "P1D": 86400, "P15D": 15 * 86400, "PT1H": 3600, "PT1M": 60, "PT1S": 1,
		"PT1H1M": 3660, "PT1H1S": 3601, "PT1M1S": 61, "PT1H1M1S": 3661, "P1DT1H": 90000, "P1DT1M": 86460, "P1DT1S": 86401, "P1DT1H1M": 90060,
		"P1DT1H1S": 90001, "P1DT1M1S": 86461, "P1DT1H1M1S": 90061, "P2DT3H4M5S": 2*86400 + 3*3600 + 4*60 + 5, "PT24H": 86400, "PT60M": 3600,
		"PT60S": 60, "PT61S": 61, "PT100M": 6000, "PT90M90S": 5490, "PT25H61M61S": 25*3600 + 61*60 + 61, "P7D": 604800, "P0DT0H0M7S": 7,
		"PT999999H": 999999 * 3600, "PT999999M": 999999 * 60, "PT999999S": 999999, "PT999999H999999M999999S": 999999 * 3661,
		"P999999D": maxSpan, "P142857W": maxSpan, "P999998DT24H": maxSpan, "P999998DT23H59M60S": maxSpan, "P999998DT23H59M59S": maxSpan - 1,
		"P999998DT86400S": maxSpan, "P999998DT1440M": maxSpan, "P958332DT999999H": 958332*86400 + 999999*3600,
	} {
		for text, sign := range signed(s) {
			parses(t, text, sign*want)
			checkParse(t, text)
		}
	}
	if api.MaxSpan != maxSpan || api.MaxSec != lastSec {
		t.Error("the limits are others")
	}
}

// P12.1
func TestParseNothing(t *testing.T) {
	for _, s := range []string{"", "+", "-", "P", "+P", "-P", "PT", "+PT", "-PT", "++P", "--P", "+-P", "-+P", "++PT", "--PT", "T", "+T", "-T", "+-", "--",
		"D", "W", "S", "PW", "PD", "PH", "PM", "PS", "PTW", "PTD", "PTH", "PTM", "PTS", "PDT", "PWT", "PDT1S", "P1DT", "+P1DT", "-P1DT", "P0DT", "PTT",
		"PT1", "P1", "P0", "PT0", "P000000", "P1DT1", "P1D1", "P1T", "P1T1S", "P1W1", "1D", "1W", "T1S", "+1D", "-T1S", "1", "0", "+0", "PP", "PPT1S"} {
		refuses(t, s, api.ErrForm)
		checkParse(t, s)
	}
}

// P12.1
func TestParseSigns(t *testing.T) {
	for _, s := range []string{"P1W", "P1D", "PT1H", "PT1M", "PT1S", "P1DT1H1M1S", "P0D", "PT0S", "P999999D", "P142858W", "PT", "P1DT"} {
		for text := range signed(s) {
			checkParse(t, text)
		}
		for _, two := range []string{"++", "--", "+-", "-+", "+ ", "- ", " +", " -", "---", "\u2212", "±"} {
			refuses(t, two+s, api.ErrForm)
		}
		refuses(t, s+"+", api.ErrForm)
		refuses(t, s+"-", api.ErrForm)
		refuses(t, s[:1]+"+"+s[1:], api.ErrForm)
		refuses(t, s[:1]+"-"+s[1:], api.ErrForm)
	}
	for _, s := range []string{"PT-1H", "PT+1H", "PT1H-1M", "PT1H+1M", "P1D+T1H", "P1D-T1H", "P1DT-1H", "P1-D", "P+1W", "P-1D"} {
		refuses(t, s, api.ErrForm)
	}
}

// P12.1
func TestParseDigits(t *testing.T) {
	for _, c := range []struct {
		form    string
		seconds int
	}{{"P%sW", 604800}, {"P%sD", 86400}, {"PT%sH", 3600}, {"PT%sM", 60}, {"PT%sS", 1}} {
		refuses(t, fmt.Sprintf(c.form, ""), api.ErrForm)
		for digits, n := range map[string]int{"1": 1, "9": 9, "10": 10, "12": 12, "123": 123, "1234": 1234, "12345": 12345, "100000": 100000,
			"123456": 123456, "01": 1, "007": 7, "000001": 1, "000010": 10, "00012": 12, "010": 10, "08": 8, "012345": 12345, "0": 0, "00": 0, "000000": 0} {
			for text, sign := range signed(fmt.Sprintf(c.form, digits)) {
				parses(t, text, sign*n*c.seconds)
			}
		}
		for _, digits := range []string{"0000000", "0000001", "1000000", "1234567", "9999999", "00000000", "12345678", "00000000000000000001",
			"99999999999999999999", "18446744073709551616", "1_0", "1e5", "0x1", "0b1", "1.0", "1,0", ".5", "1 ", " 1", "１", "١", strings.Repeat("0", 9999) + "1"} {
			for text := range signed(fmt.Sprintf(c.form, digits)) {
				refuses(t, text, api.ErrForm)
			}
		}
	}
	parses(t, "P000001DT000002H000003M000004S", 86400+2*3600+3*60+4)
	for _, s := range []string{"P0000001DT2H3M4S", "P1DT0000002H3M4S", "P1DT2H0000003M4S", "P1DT2H3M0000004S"} {
		refuses(t, s, api.ErrForm)
	}
}

// P12.1
func TestParseOfEachWidth(t *testing.T) {
	for width := range 12 {
		for _, form := range []string{"P%sW", "P%sD", "P%sDT1S", "P1DT%sH", "PT%sM", "PT1H%sS", "PT1M%sS"} {
			for _, digit := range []string{"0", "1", "9"} {
				s := fmt.Sprintf(form, strings.Repeat(digit, width))
				checkParse(t, s)
				if _, no := Parse(s); (no == api.ErrForm) != (width < 1 || width > 6) {
					t.Errorf("Parse(%q): %d", s, no)
				}
			}
		}
	}
}

// P12.1
func TestParseWeeksStandAlone(t *testing.T) {
	for _, behind := range []string{"1D", "T", "T1H", "T1M", "T1S", "T1H1M1S", "1DT1S", "1W", "W", "D", "0D", "T0S", " ", "\n", "\r\n", "\x00", "1", "0", "Z", "P1D", "+", ","} {
		for text := range signed("P1W" + behind) {
			refuses(t, text, api.ErrForm)
		}
	}
	for _, s := range []string{"P1D1W", "P1DT1W", "PT1W", "PT1H1W", "PT1S1W", "P1W1W", "P1D1D", "P1D1DT1S", "P1DT1D", "PT1D", "P1H", "P1M", "P1S", "P1Y", "P1DT1Y", "P1D1H"} {
		refuses(t, s, api.ErrForm)
	}
}

// orders are all ways to lay some of the parts behind one another, some of them twice.
func orders(parts []string, most int) []string {
	all, last := []string{""}, []string{""}
	for range most {
		var longer []string
		for _, s := range last {
			for _, p := range parts {
				longer = append(longer, s+p)
			}
		}
		all, last = append(all, longer...), longer
	}
	return all
}

// P12.1
func TestParseAllOrders(t *testing.T) {
	good := []string{"1H", "2M", "3S", "1H2M", "1H3S", "2M3S", "1H2M3S"}
	for _, time := range orders([]string{"1H", "2M", "3S"}, 4) {
		for _, ahead := range []string{"PT", "P4DT", "+PT", "-P4DT"} {
			checkParse(t, ahead+time)
			if _, no := Parse(ahead + time); (no == api.OK) != slices.Contains(good, time) {
				t.Errorf("Parse(%q): %d", ahead+time, no)
			}
		}
	}
	for _, s := range orders([]string{"P", "T", "1W", "2D", "3H", "4M", "5S", "6"}, 5) {
		checkParse(t, s)
		checkParse(t, "P"+s)
	}
	for _, s := range orders([]string{"P", "T", "W", "D", "H", "M", "S", "0", "1", "+", "-"}, 4) {
		checkParse(t, s)
		checkParse(t, "-P"+s)
	}
}

// P12.1
func TestParseSmallLettersAndSpaces(t *testing.T) {
	for _, s := range []string{"P1W", "P1D", "PT1H", "PT1M", "PT1S", "P1DT1H1M1S", "-P1DT1H1M1S", "+P1W"} {
		for i := range s {
			if small := strings.ToLower(s[i : i+1]); small != s[i:i+1] {
				refuses(t, s[:i]+small+s[i+1:], api.ErrForm)
			}
		}
		for _, space := range []string{" ", "\t", "\n", "\r\n", "\x00", "\u00a0", "\ufeff"} {
			refuses(t, space+s, api.ErrForm)
			refuses(t, s+space, api.ErrForm)
			for i := range s {
				refuses(t, s[:i]+space+s[i:], api.ErrForm)
			}
		}
	}
}

// P12.1
func TestParseEveryByteAtEveryPlace(t *testing.T) {
	for _, s := range []string{"", "P", "P1W", "P1D", "-P1D", "+P1W", "PT", "PT1H", "PT1M", "PT1S", "P1DT1S", "PT1H2M", "PT1H3S", "PT2M3S", "P15DT5H0M20S",
		"-P999999D", "+P142857W", "P000001DT000002H000003M000004S", "P999998DT24H", "-PT0S"} {
		for b := range 256 {
			sign := string([]byte{byte(b)})
			for i := range s {
				checkParse(t, s[:i]+sign+s[i+1:])
				checkParse(t, s[:i]+sign+s[i:])
			}
			checkParse(t, s+sign)
		}
		for i := range s {
			checkParse(t, s[:i]+s[i+1:])
			checkParse(t, s[:i])
			checkParse(t, s[i:])
		}
	}
}

// P12.1
func TestParseEveryByteBehindANumber(t *testing.T) {
	for b := range 256 {
		sign := string([]byte{byte(b)})
		if _, no := Parse("P1" + sign); (no == api.OK) != (sign == "D" || sign == "W") {
			t.Errorf("P1 and the byte %d: %d", b, no)
		}
		if _, no := Parse("PT1" + sign); (no == api.OK) != (sign == "H" || sign == "M" || sign == "S") {
			t.Errorf("PT1 and the byte %d: %d", b, no)
		}
		if _, no := Parse(sign + "P1D"); (no == api.OK) != (sign == "+" || sign == "-") {
			t.Errorf("the byte %d ahead: %d", b, no)
		}
		if _, no := Parse("P" + sign + "D"); (no == api.OK) != (b >= 48 && b <= 57) {
			t.Errorf("the byte %d as a number: %d", b, no)
		}
		if b != 84 {
			refuses(t, "P1D"+sign+"1S", api.ErrForm)
			refuses(t, "P"+sign+"1S", api.ErrForm)
		}
	}
}

// P12.1
func TestParseNought(t *testing.T) {
	for _, s := range []string{"P0W", "P0D", "PT0H", "PT0M", "PT0S", "PT0H0M0S", "P0DT0S", "P0DT0H0M0S", "P000000W", "P000000DT000000H000000M000000S"} {
		for text := range signed(s) {
			parses(t, text, 0)
		}
	}
}

// P12.1
func TestParseNoSpans(t *testing.T) {
	for _, s := range []string{"P142858W", "P142859W", "P200000W", "P999999W", "P999999DT1S", "P999999DT1M", "P999999DT1H", "P999999DT000001S",
		"P999998DT86401S", "P999998DT24H1S", "P999998DT24H0M1S", "P999998DT23H60M1S", "P999998DT25H", "P999998DT1441M", "P999999DT999999H",
		"P999990DT999999H", "P958333DT999999H", "P999999DT999999H999999M999999S", "P999998DT999999S", "P999990DT999999M", "P999999DT0H0M1S"} {
		for text := range signed(s) {
			refuses(t, text, api.ErrRange)
			checkParse(t, text)
			refuses(t, text+" ", api.ErrForm)
			refuses(t, " "+text, api.ErrForm)
			refuses(t, strings.ToLower(text), api.ErrForm)
		}
	}
	for _, s := range []string{"P999999DT0S", "P999999DT0H0M0S", "P142857W", "P999998DT24H0M0S"} {
		for text, sign := range signed(s) {
			parses(t, text, sign*maxSpan)
		}
	}
}

// P12.1
func TestParseTellsTheFormFirst(t *testing.T) {
	for _, s := range []string{"P999999W1", "P999999WT", "P999999W1D", "P999999DT1S1S", "P999999DT1S1M", "P999999DT999999H1", "P999999DT1Sx", "p999999W",
		"P999999w", "P999999DT999999h", "P999999DT1H1H", "P999999DT999999H0000000S", "P1000000W", "P999999DT1000000S", "++P999999W", "P999999DT1S1H",
		"P999999W\n", "P999999DT999999H\x00", "P999999WP1D"} {
		for text := range signed(s) {
			refuses(t, text, api.ErrForm)
		}
	}
}

// P12.1
func TestParseAllNumbers(t *testing.T) {
	for n := 0; n < 1000000; n += 1 + n/1000 {
		digits := fmt.Sprintf("%d", n)
		for _, form := range []string{"P%sW", "-P%sD", "PT%sH", "-PT%sM", "+PT%sS"} {
			checkParse(t, fmt.Sprintf(form, digits))
			checkParse(t, fmt.Sprintf(form, fmt.Sprintf("%06d", n)))
		}
	}
	for n := 142000; n < 144000; n++ {
		checkParse(t, fmt.Sprintf("P%dW", n))
		checkParse(t, fmt.Sprintf("-P%dW", n))
	}
	for n := 86000; n < 87000; n++ {
		checkParse(t, fmt.Sprintf("P999998DT%dS", n))
		checkParse(t, fmt.Sprintf("-P999998DT%dS", n))
	}
}

// P12.1
func TestParseRandom(t *testing.T) {
	r := rand.New(rand.NewSource(1201))
	const signs = "PPTTWDHMS00123459+-ptdhs \x00\xff"
	for range 200000 {
		s := make([]byte, r.Intn(14))
		for i := range s {
			s[i] = signs[r.Intn(len(signs))]
		}
		checkParse(t, string(s))
	}
	number := func() string {
		switch r.Intn(6) {
		case 0:
			return fmt.Sprintf("%06d", r.Intn(1000000))
		case 1:
			return fmt.Sprint(r.Intn(10000000))
		}
		return fmt.Sprint(r.Intn(1000000) >> r.Intn(20))
	}
	part := func(letter string) string {
		if r.Intn(3) == 0 {
			return ""
		}
		return number() + letter
	}
	for range 200000 {
		s := []string{"", "+", "-"}[r.Intn(3)] + "P"
		if r.Intn(4) == 0 {
			s += part("W")
		}
		s += part("D")
		if r.Intn(4) != 0 {
			s += "T" + part("H") + part("M") + part("S")
		}
		checkParse(t, s)
		text := []byte(s)
		text[r.Intn(len(text))] = signs[r.Intn(len(signs))]
		checkParse(t, string(text))
	}
}
