package span

import (
	"fmt"
	"math"
	"math/rand"
	"strings"
	"testing"

	"errand/api"
)

// P12.4
func TestParseOffsetEdges(t *testing.T) {
	for s, want := range map[string]int{"+0000": 0, "+000000": 0, "+0001": 60, "-0001": -60, "+000001": 1, "-000001": -1, "+0100": 3600, "-0100": -3600,
		"-0500": -18000, "+1345": 49500, "-0330": -12600, "+0530": 19800, "+2359": 86340, "-2359": -86340, "+235959": 86399, "-235959": -86399,
		"+230000": 82800, "-2300": -82800, "+005900": 3540, "-0059": -3540, "+000059": 59, "-000059": -59, "+010203": 3723, "-010203": -3723,
		"-000100": -60, "-010000": -3600, "+010000": 3600, "+1000": 36000, "+0010": 600, "+000010": 10} {
		if n, no := ParseOffset(s); n != want || no != api.OK {
			t.Errorf("ParseOffset(%q): %d, %d, not %d", s, n, no, want)
		}
		checkOffset(t, s)
	}
}

// P12.4
func TestParseOffsetRefuses(t *testing.T) {
	for s, want := range map[string]api.Errno{
		"-0000": api.ErrRange, "-000000": api.ErrRange, "+2400": api.ErrRange, "-2400": api.ErrRange, "+240000": api.ErrRange, "+0060": api.ErrRange,
		"-0060": api.ErrRange, "+000060": api.ErrRange, "-000060": api.ErrRange, "+006000": api.ErrRange, "+9999": api.ErrRange, "-999999": api.ErrRange,
		"+2360": api.ErrRange, "+235960": api.ErrRange, "+0099": api.ErrRange, "+000099": api.ErrRange, "+2500": api.ErrRange, "-240060": api.ErrRange,
		"+236000": api.ErrRange, "-006060": api.ErrRange,
		"": api.ErrForm, "+": api.ErrForm, "-": api.ErrForm, "+0": api.ErrForm, "+00": api.ErrForm, "-000": api.ErrForm, "+00000": api.ErrForm,
		"-00000": api.ErrForm, "+0000000": api.ErrForm, "-0000000": api.ErrForm, "+00000000": api.ErrForm, "0000": api.ErrForm, "00000": api.ErrForm,
		"000000": api.ErrForm, "0000000": api.ErrForm, "0100": api.ErrForm, "010000": api.ErrForm, "+01:00": api.ErrForm, "+01:00:00": api.ErrForm,
		"++0100": api.ErrForm, "--0100": api.ErrForm, "+-0100": api.ErrForm, "-+0100": api.ErrForm, "++010": api.ErrForm, "+-010": api.ErrForm,
		"--00000": api.ErrForm, " +0100": api.ErrForm, "+0100 ": api.ErrForm, "+ 100": api.ErrForm, "+01 0": api.ErrForm, "+0100Z": api.ErrForm,
		"Z": api.ErrForm, "+0100\n": api.ErrForm, "+0100\x00": api.ErrForm, "+100": api.ErrForm, "+1": api.ErrForm, "+01": api.ErrForm,
		"\u22120100": api.ErrForm, "±0100": api.ErrForm, "+010a": api.ErrForm, "+0x10": api.ErrForm, "+1e10": api.ErrForm, "+0_10": api.ErrForm,
		"+01+0": api.ErrForm, "+-1-1": api.ErrForm, "+01-100": api.ErrForm, "+01-1-1": api.ErrForm, "+0１": api.ErrForm, "UTC+1": api.ErrForm,
		"+2400x": api.ErrForm, "+240a": api.ErrForm, "-000a": api.ErrForm, "-00000a": api.ErrForm, "2400": api.ErrForm, "24000": api.ErrForm,
		"+24000": api.ErrForm, "-2460600": api.ErrForm, "+00606a": api.ErrForm, "+99:99": api.ErrForm, "-000000 ": api.ErrForm, "+2400000": api.ErrForm,
	} {
		if n, no := ParseOffset(s); n != 0 || no != want {
			t.Errorf("ParseOffset(%q): %d, %d, not %d", s, n, no, want)
		}
		checkOffset(t, s)
	}
}

// P12.4
func TestParseOffsetOfEachLength(t *testing.T) {
	for length := range 40 {
		for _, sign := range []string{"", "+", "-", "++", "--", "+-", " ", "z", "\x00"} {
			for _, digit := range []string{"0", "1", "2", "9", "a", " ", "\xff"} {
				s := sign + strings.Repeat(digit, length)
				checkOffset(t, s)
				signed := (sign == "+" || sign == "-") && (length == 4 || length == 6) && digit >= "0" && digit <= "9"
				if _, no := ParseOffset(s); (no == api.ErrForm) == signed {
					t.Errorf("ParseOffset(%q): %d", s, no)
				}
			}
		}
	}
}

// P12.4
func TestParseOffsetEveryByteAtEveryPlace(t *testing.T) {
	for _, s := range []string{"", "+", "+0000", "-0000", "+000000", "-000000", "+0100", "-0500", "+235959", "-235959", "+2400", "+006000", "-999999", "+01000"} {
		for b := range 256 {
			sign := string([]byte{byte(b)})
			for i := range s {
				checkOffset(t, s[:i]+sign+s[i+1:])
				checkOffset(t, s[:i]+sign+s[i:])
			}
			checkOffset(t, s+sign)
			if n, no := ParseOffset("+0100" + sign); n != 0 || no != api.ErrForm {
				t.Errorf("+0100 and the byte %d: %d, %d", b, n, no)
			}
			if n, no := ParseOffset(sign + "0100"); (no == api.OK) != (b == 43 || b == 45) || no == api.OK && n != 3600*(44-b) {
				t.Errorf("the byte %d ahead of 0100: %d, %d", b, n, no)
			}
		}
	}
}

// P12.4
func TestParseOffsetAllDigits(t *testing.T) {
	for hm := range 10000 {
		checkOffset(t, fmt.Sprintf("+%04d", hm))
		checkOffset(t, fmt.Sprintf("-%04d", hm))
		checkOffset(t, fmt.Sprintf("%05d", hm))
	}
	for hms := range 1000000 {
		checkOffset(t, fmt.Sprintf("+%06d", hms))
		checkOffset(t, fmt.Sprintf("-%06d", hms))
	}
}

// P12.4
func TestParseOffsetRandom(t *testing.T) {
	r := rand.New(rand.NewSource(1204))
	const signs = "++--00112233445566789: Zz\x00\xff"
	for range 200000 {
		s := make([]byte, r.Intn(11))
		for i := range s {
			s[i] = signs[r.Intn(len(signs))]
		}
		checkOffset(t, string(s))
		if len(s) > 0 {
			s[0] = "+-"[r.Intn(2)]
			checkOffset(t, string(s))
		}
	}
}

// P12.4
func TestPrintOffsetEdges(t *testing.T) {
	for n, want := range map[int]string{0: "+0000", 1: "+000001", -1: "-000001", 59: "+000059", -59: "-000059", 60: "+0001", -60: "-0001", 61: "+000101",
		-61: "-000101", 599: "+000959", 600: "+0010", 3540: "+0059", 3599: "+005959", -3599: "-005959", 3600: "+0100", -3600: "-0100", 3601: "+010001",
		-3601: "-010001", 35999: "+095959", 36000: "+1000", -18000: "-0500", 49500: "+1345", 82800: "+2300", -82800: "-2300", 86340: "+2359",
		-86340: "-2359", 86341: "+235901", 86399: "+235959", -86399: "-235959"} {
		if s, no := PrintOffset(n); s != want || no != api.OK {
			t.Errorf("PrintOffset(%d): %q, %d, not %q", n, s, no, want)
		}
	}
	odd := append([]int{86400, -86400, 86401, -86401, 86460, 90000, -90000, 99 * 3600, 100 * 3600, 1 << 16 << 1, 1 << 31, 1 << 32, 1<<32 + 60, -1 << 32,
		1<<32 - 60, maxSpan, -maxSpan, lastSec, math.MinInt32, math.MaxInt32}, oddInts...)
	for _, n := range odd {
		if s, no := PrintOffset(n); s != "" || no != api.ErrRange {
			t.Errorf("PrintOffset(%d): %q, %d", n, s, no)
		}
	}
	for n := 86400; n < 400000; n++ {
		s, no := PrintOffset(n)
		below, no2 := PrintOffset(-n)
		if s != "" || below != "" || no != api.ErrRange || no2 != api.ErrRange {
			t.Fatalf("PrintOffset(%d): %q, %d, and below 0 %q, %d", n, s, no, below, no2)
		}
	}
}
