package moment

import (
	"fmt"
	"math/rand"
	"strings"
	"testing"

	"errand/api"
)

// P11.2
func TestParseExample(t *testing.T) {
	parses(t, "19970714T133000Z", Value{UTC, 63004483800})
	parses(t, "19970714T133000", Value{Local, 63004483800})
	parses(t, "19970714", Value{Date, 63004483800 - 48600})
	parses(t, "19970714T000000Z", Value{UTC, 729218 * 86400})
}

// P11.2
func TestParseEnds(t *testing.T) {
	parses(t, "00010101", Value{Date, 0})
	parses(t, "00010101T000000", Value{Local, 0})
	parses(t, "00010101T000000Z", Value{UTC, 0})
	parses(t, "00010101T000001", Value{Local, 1})
	parses(t, "00010101T000059Z", Value{UTC, 59})
	parses(t, "00010101T000100Z", Value{UTC, 60})
	parses(t, "00010101T005959", Value{Local, 3599})
	parses(t, "00010101T010000", Value{Local, 3600})
	parses(t, "00010101T235959", Value{Local, 86399})
	parses(t, "00010102", Value{Date, 86400})
	parses(t, "99991231", Value{Date, lastSec - 86399})
	parses(t, "99991231T000000Z", Value{UTC, lastSec - 86399})
	parses(t, "99991231T235959", Value{Local, lastSec})
	parses(t, "99991231T235959Z", Value{UTC, lastSec})
	parses(t, "19700101T000000Z", Value{UTC, 719162 * 86400})
}

// P11.2
func TestParseOfEachLength(t *testing.T) {
	whole := map[int]uint8{8: Date, 15: Local, 16: UTC}
	for length := range 41 {
		long := ("19970714T133000Z" + strings.Repeat("0", 40))[:length]
		v, no := Parse(long)
		if kind := whole[length]; kind == None && no != api.ErrForm || kind != None && no != api.OK || v.Kind != kind {
			t.Errorf("%d bytes: %v, %d", length, v, no)
		}
		for _, sign := range []string{"0", "1", "9", "T", "Z", "t", "z", " ", "-", "\x00", "\xff", "/", ":"} {
			checkParse(t, strings.Repeat(sign, length))
		}
		for _, end := range []string{"T133000", "T133000Z", "Z", "T", "133000Z", "\n", "\r\n", " "} {
			checkParse(t, ("19970714" + strings.Repeat("0", 40))[:length]+end)
			checkParse(t, end+long)
		}
	}
	for _, length := range []int{8 + 256, 15 + 256, 16 + 256, 8 + 1<<16, 16 + 1<<16, 6000} {
		refuses(t, ("19970714T133000Z" + strings.Repeat("0", length))[:length], api.ErrForm)
		refuses(t, strings.Repeat("1", length), api.ErrForm)
	}
}

// P11.2
func TestParseEachByteAtEachPlace(t *testing.T) {
	for _, s := range []string{"19970714", "19970714T133000", "19970714T133000Z", "00010101", "00010101T000000", "00010101T000000Z",
		"99991231", "99991231T235959", "99991231T235959Z", "20240229", "20240229T111111", "11111111T111111Z"} {
		for at := range len(s) {
			for b := range 256 {
				changed := s[:at] + string([]byte{byte(b)}) + s[at+1:]
				checkParse(t, changed)
				if digit := b >= '0' && b <= '9'; byte(b) != s[at] && (at == 8 || at == 15 || !digit) {
					refuses(t, changed, api.ErrForm)
				}
			}
		}
	}
}

// P11.2
func TestParseEachByteMoreOrLess(t *testing.T) {
	for _, s := range []string{"19970714", "19970714T133000", "19970714T133000Z"} {
		for at := range len(s) + 1 {
			for b := range 256 {
				checkParse(t, s[:at]+string([]byte{byte(b)})+s[at:])
			}
		}
		for at := range len(s) {
			checkParse(t, s[:at]+s[at+1:])
			checkParse(t, s[:at])
			checkParse(t, s[at:])
		}
	}
}

// P11.2
func TestParseOtherForms(t *testing.T) {
	for _, s := range []string{"", "T", "Z", "19970714Z", "19970714T", "19970714TZ", "19970714z", "19970714t133000", "19970714t133000Z",
		"19970714T133000z", "19970714t133000z", "19970714T133000ZZ", "19970714T1330", "19970714T1330Z", "19970714T13Z", "T133000", "T133000Z",
		"133000", "133000Z", "970714", "970714T133000Z", "1997-07-14", "1997-07-14T13:30:00Z", "19970714 133000", "19970714 133000Z",
		"19970714T133000.0", "19970714T133000+0000", "19970714T133000-0400", "+9970714", "-9970714", "-19970714", "+19970714", " 9970714",
		"1997 714", "1997071 ", "19970714 ", " 19970714", "19970714T+33000", "19970714T-10000", "19970714T1330-1", "19970714T 33000",
		"19970714T13300 ", "19970714T133000 ", "19970714T133000Z ", "19970714T133000Z\n", "19970714T133000\n", "19970714\n", "19970714\x00",
		"019970714", "019970714T133000", "1e970714", "0x970714", "1_970714", "199707140", "19970714T133000A", "19970714T133000\x00",
		"1997071４", "١٩٩٧0714", "1997071T4133000", "19970714TT33000", "TT970714", "ZZZZZZZZ", "TTTTTTTT", "19970714T133ZZZ", "TTTTTTTTTTTTTTTZ",
		"20240229T", "2024W01", "P1D", "TZID", "20240101/20240102", "20240101,20240102", "VALUE=DA", "00000000000000Z", "000000000000000",
		"0000000000000000", "0000000T00000000", "000000000T000000"} {
		refuses(t, s, api.ErrForm)
	}
}

// P11.2
func TestParseNoDates(t *testing.T) {
	for _, date := range []string{"00000101", "00001231", "00000229", "00000000", "19970014", "19971314", "19979914", "19970700", "19970732",
		"19970799", "19970631", "19970431", "19970931", "19971131", "19970229", "19000229", "21000229", "20230229", "20240230", "20000230",
		"99990229", "99991232", "99991301", "00010100", "00010001", "19970132", "19971232", "19970200", "99999999"} {
		for _, time := range []string{"", "T000000", "T000000Z", "T133000Z", "T235959", "T240000", "T006000Z", "T000060", "T999999Z"} {
			refuses(t, date+time, api.ErrRange)
		}
	}
	for _, date := range []string{"20240229", "20000229", "04000229", "00040229", "99960229", "19970228", "19000228", "19970131", "19970331",
		"19970430", "19970531", "19970630", "19970731", "19970831", "19970930", "19971031", "19971130", "19971231"} {
		for _, time := range []string{"", "T000000", "T000000Z"} {
			if _, no := Parse(date + time); no != api.OK {
				t.Errorf("Parse(%q): %d", date+time, no)
			}
			checkParse(t, date+time)
		}
	}
}

// P11.2
func TestParseNoTimes(t *testing.T) {
	for _, time := range []string{"240000", "250000", "990000", "006000", "006100", "009900", "000060", "000061", "000099", "235960", "236059",
		"236000", "245959", "240001", "999999", "126060", "242424"} {
		for _, date := range []string{"19970714", "00010101", "99991231", "19970630", "20161231"} {
			refuses(t, date+"T"+time, api.ErrRange)
			refuses(t, date+"T"+time+"Z", api.ErrRange)
		}
	}
	for _, time := range []string{"230000", "235900", "235959", "005900", "000059", "000000"} {
		if v, no := Parse("19970714T" + time + "Z"); no != api.OK || v.Kind != UTC {
			t.Errorf("%s: %v, %d", time, v, no)
		}
	}
}

// P11.2
func TestParseTellsTheFormFirst(t *testing.T) {
	for _, s := range []string{"00000000Z", "19971399Z", "19971399T", "00000000T", "00000000T000000z", "00000000t000000", "19971332T246060z",
		"19971332T246060ZZ", "19970714T240000z", "19970714T2400", "19970714T24000Z", "19970714T24000a", "00000000T00000 ", "0000000a",
		"99999999T99999", "99999999T9999999", "999999999", "9999999", "19970714T246060+", "1997071aT240000", "a9971399", "19971399T13300a"} {
		refuses(t, s, api.ErrForm)
	}
}

// P11.2
func TestParseAllMonthsAndDays(t *testing.T) {
	for _, y := range []int{0, 1, 4, 100, 400, 1900, 1997, 2000, 2023, 2024, 9996, 9999} {
		for md := range 10000 {
			checkParse(t, fmt.Sprintf("%04d%04d", y, md))
		}
		for md := range 10000 {
			checkParse(t, fmt.Sprintf("%04d%04dT235959Z", y, md))
		}
	}
}

// P11.2
func TestParseAllYears(t *testing.T) {
	for y := range 10000 {
		for _, rest := range []string{"0101", "0228", "0229", "0230", "0301", "1231T235959", "0229T000000Z", "0229T240000", "1232"} {
			checkParse(t, fmt.Sprintf("%04d%s", y, rest))
		}
	}
}

// P11.2
func TestParseAllTimes(t *testing.T) {
	for hms := range 1000000 {
		checkParse(t, fmt.Sprintf("19970714T%06d", hms))
	}
	for hms := 0; hms < 1000000; hms += 7 {
		checkParse(t, fmt.Sprintf("99991231T%06dZ", hms))
	}
}

// P11.2
func TestParseRandom(t *testing.T) {
	r := rand.New(rand.NewSource(1102))
	const signs = "00112233456789TZtz -+:/;\x00\xff"
	for range 300000 {
		s := make([]byte, r.Intn(18))
		for i := range s {
			s[i] = signs[r.Intn(len(signs))]
		}
		checkParse(t, string(s))
	}
	for range 300000 {
		s := []byte(plainText(kinds[r.Intn(3)], r.Intn(lastSec+1)))
		for range r.Intn(3) {
			s[r.Intn(len(s))] = signs[r.Intn(len(signs))]
		}
		checkParse(t, string(s))
	}
}
