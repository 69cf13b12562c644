package escape

import (
	"strings"
	"testing"
)

// pairs are all that may stand behind a backslash, and what they tell.
var pairs = []struct{ value, text string }{{"\\\\", "\\"}, {"\\;", ";"}, {"\\,", ","}, {"\\n", "\n"}, {"\\N", "\n"}}

// P16.2
func TestUnescape(t *testing.T) {
	tells(t, "", "")
	tells(t, "a", "a")
	tells(t, "nN", "nN")
	tells(t, "Buy milk\\, eggs\\; bread\\nat C:\\\\shop\\N", "Buy milk, eggs; bread\nat C:\\shop\n")
}

// P16.2
func TestUnescapeEachPair(t *testing.T) {
	for _, x := range pairs {
		tells(t, x.value, x.text)
		tells(t, x.value+"ab", x.text+"ab")
		tells(t, "a"+x.value+"b", "a"+x.text+"b")
		tells(t, "ab"+x.value, "ab"+x.text)
		tells(t, strings.Repeat(x.value, 9), strings.Repeat(x.text, 9))
		for _, y := range pairs {
			tells(t, x.value+y.value, x.text+y.text)
			tells(t, x.value+"a"+y.value, x.text+"a"+y.text)
			for _, z := range pairs {
				tells(t, x.value+y.value+z.value, x.text+y.text+z.text)
			}
		}
	}
}

// P16.2: a backslash at the value's end.
func TestUnescapeBackslashAtTheEnd(t *testing.T) {
	refuses(t, "\\", 0)
	refuses(t, "a\\", 1)
	refuses(t, "abc\\", 3)
	refuses(t, "\xc3\xa9\\", 2)
	for n := range 20 {
		tells(t, "a"+strings.Repeat("\\", 2*n), "a"+strings.Repeat("\\", n))
		refuses(t, "a"+strings.Repeat("\\", 2*n+1), 2*n+1)
	}
	for _, x := range pairs {
		refuses(t, x.value+"\\", 2)
	}
}

// P16.2: a backslash ahead of every other byte.
func TestUnescapeBackslashAheadOfOtherBytes(t *testing.T) {
	for i := range 256 {
		b := string([]byte{byte(i)})
		if strings.Contains("\\;,nN", b) {
			continue
		}
		refuses(t, "\\"+b, 0)
		refuses(t, "\\"+b+"ab", 0)
		refuses(t, "ab\\"+b, 2)
		refuses(t, "ab\\"+b+"cd", 2)
		refuses(t, "\\n\\\\\\"+b, 4)
		tells(t, "\\\\"+b, "\\"+b)
	}
	refuses(t, "\\\xc5\x84", 0)
	refuses(t, "\\\xef\xbc\x8c", 0)
	refuses(t, "\\ n", 0)
	refuses(t, "\\\n", 0)
	refuses(t, "\\\r\n", 0)
}

// P16.2: a backslash that is told by another one is of no other sign.
func TestUnescapeBehindTwoBackslashes(t *testing.T) {
	refuses(t, "\\\\,", 2)
	refuses(t, "\\\\;", 2)
	tells(t, "\\\\n", "\\n")
	tells(t, "\\\\N", "\\N")
	tells(t, "\\\\\\,", "\\,")
	tells(t, "\\\\\\;", "\\;")
	tells(t, "\\\\\\n", "\\\n")
	tells(t, "\\\\\\N", "\\\n")
	refuses(t, "\\\\\\\\,", 4)
	refuses(t, "\\\\\\\\;", 4)
	tells(t, "\\\\\\\\n", "\\\\n")
	refuses(t, "a\\\\,b", 3)
	refuses(t, "a\\\\;b", 3)
	tells(t, "a\\\\nb", "a\\nb")
	refuses(t, "\\,,", 2)
	refuses(t, "\\;;", 2)
	refuses(t, "\\n,", 2)
	refuses(t, "\\N;", 2)
}

// P16.2
func TestUnescapeSignsWithoutBackslash(t *testing.T) {
	for _, c := range []string{";", ","} {
		refuses(t, c, 0)
		refuses(t, c+"ab", 0)
		refuses(t, "a"+c+"b", 1)
		refuses(t, "ab"+c, 2)
		refuses(t, "\xe2\x82\xac"+c, 3)
		refuses(t, "\\n\\,\\;\\\\"+c+"a", 8)
		refuses(t, "\\a"+c, 0)
		refuses(t, strings.Repeat(c, 5), 0)
		for n := range 200 {
			refuses(t, strings.Repeat("a", n)+c, n)
			refuses(t, strings.Repeat("\\,", n)+c, 2*n)
		}
	}
}

// P16.2: of several faults the first one by its place is told.
func TestUnescapeTellsTheFirstFault(t *testing.T) {
	for _, x := range []string{";", ",", "\\a", "\\:", "\\\n", "\\\xff"} {
		for _, y := range []string{";", ",", "\\a", "\\"} {
			refuses(t, x+y, 0)
			refuses(t, "ab"+x+"c"+y, 2)
			refuses(t, "\\N"+x+"\\,"+y, 2)
			refuses(t, "\\\\"+x+y+x, 2)
		}
	}
	refuses(t, "\\a;", 0)
	refuses(t, "a;b,c\\", 1)
	refuses(t, "a,b;c\\", 1)
	refuses(t, "a\\b;c,", 1)
	refuses(t, "a\\n\\", 3)
}

// P16.2: all other bytes stay, LF itself among them.
func TestUnescapeLeavesOtherBytes(t *testing.T) {
	tells(t, "\n", "\n")
	tells(t, "a\nb\n", "a\nb\n")
	tells(t, "\n\\n\n\\N", "\n\n\n\n")
	tells(t, "\r\n", "\r\n")
	for i := range 256 {
		b := string([]byte{byte(i)})
		if strings.Contains("\\;,", b) {
			continue
		}
		tells(t, b, b)
		tells(t, "x"+b+b+"y", "x"+b+b+"y")
		tells(t, "\\,"+b+"\\n"+b+"\\\\", ","+b+"\n"+b+"\\")
	}
	for _, s := range []string{"\xc3\xa9", "\xe2\x82\xac", "\xf0\x9f\x98\x80", "\xef\xbf\xbd", "\xed\xa0\x80", "\xc0\x80", "\xc1\x9c", "\xdc\xbb\xac\x8a", "\u2028"} {
		tells(t, s, s)
		tells(t, s+"\\n"+s, s+"\n"+s)
		refuses(t, s+"\\"+s, len(s))
		refuses(t, s+";", len(s))
	}
}
