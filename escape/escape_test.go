package escape

import (
	"strings"
	"testing"
)

// signs are the four bytes that do not stay, and what they become.
var signs = []struct{ text, value string }{{"\\", "\\\\"}, {";", "\\;"}, {",", "\\,"}, {"\n", "\\n"}}

// P16.1
func TestEscape(t *testing.T) {
	escapes(t, "", "")
	escapes(t, "a", "a")
	escapes(t, "Buy milk", "Buy milk")
	escapes(t, "Buy milk, eggs; bread\nat C:\\shop", "Buy milk\\, eggs\\; bread\\nat C:\\\\shop")
	escapes(t, "nN", "nN")
}

// P16.1: at the beginning, in the middle, at the end, and alone.
func TestEscapeEachSignAtEachPlace(t *testing.T) {
	for _, x := range signs {
		escapes(t, x.text, x.value)
		escapes(t, x.text+"ab", x.value+"ab")
		escapes(t, "a"+x.text+"b", "a"+x.value+"b")
		escapes(t, "ab"+x.text, "ab"+x.value)
		escapes(t, x.text+"a"+x.text+"b"+x.text, x.value+"a"+x.value+"b"+x.value)
	}
}

// P16.1
func TestEscapeSignsBehindEachOther(t *testing.T) {
	for _, x := range signs {
		for n := range 20 {
			escapes(t, strings.Repeat(x.text, n), strings.Repeat(x.value, n))
			escapes(t, "a"+strings.Repeat(x.text, n)+"n", "a"+strings.Repeat(x.value, n)+"n")
		}
		for _, y := range signs {
			escapes(t, x.text+y.text, x.value+y.value)
			for _, z := range signs {
				escapes(t, x.text+y.text+z.text, x.value+y.value+z.value)
			}
		}
	}
}

// P16.1: what looks escaped already is escaped as all else.
func TestEscapeWhatIsEscaped(t *testing.T) {
	escapes(t, "\\n", "\\\\n")
	escapes(t, "\\N", "\\\\N")
	escapes(t, "\\,", "\\\\\\,")
	escapes(t, "\\;", "\\\\\\;")
	escapes(t, "\\\\", "\\\\\\\\")
	escapes(t, "\\\n", "\\\\\\n")
	for _, x := range signs {
		escapes(t, x.value, plainEscape(x.value))
		escapes(t, Escape(Escape(x.text)), plainEscape(plainEscape(plainEscape(x.text))))
	}
}

// P16.1: all other bytes stay.
func TestEscapeLeavesOtherBytes(t *testing.T) {
	for _, s := range []string{"\r", "\"", ":", "'", "^", "^n", "=", ".", "/", "|", "[", "]", " ", "\t", "\x00", "\v", "\x7f", "n", "N", "a\r", "\rb", "a\"b\"", "a:b",
		"\r\r\"\"::", "\u2028", "\u0085", "\uff0c", "\uff1b", "\uff3c"} {
		escapes(t, s, s)
	}
	escapes(t, "a\r\nb\r\n", "a\r\\nb\r\\n")
	for i := range 256 {
		b := string([]byte{byte(i)})
		if strings.Contains("\\;,\n", b) {
			continue
		}
		escapes(t, b, b)
		escapes(t, "x"+b+b+"y", "x"+b+b+"y")
		escapes(t, ","+b+"\n"+b+"\\", "\\,"+b+"\\n"+b+"\\\\")
	}
}

// P16.1: bytes that are in no character, some of which have the low bits of a sign.
func TestEscapeBadBytes(t *testing.T) {
	for _, s := range []string{"\x80", "\xff", "\xc3", "\xe2\x82", "\xf0\x9f\x98", "\xed\xa0\x80", "\xc0\x80", "\xc1\x9c", "\xc0\xac", "\xdc", "\xbb", "\xac", "\x8a",
		"\xdc\xbb\xac\x8a", "\xef\xbf\xbd"} {
		escapes(t, s, s)
		escapes(t, s+","+s, s+"\\,"+s)
		escapes(t, "\\"+s+"\n", "\\\\"+s+"\\n")
	}
}

// P16.1
func TestEscapeAllBytes(t *testing.T) {
	s := allBytes()
	escapes(t, s, s[:10]+"\\n"+s[11:44]+"\\,"+s[45:59]+"\\;"+s[60:92]+"\\\\"+s[93:])
}
