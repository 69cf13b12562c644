package utf

import (
	"strings"
	"testing"
)

// P14.4
func TestUpperOfEachByte(t *testing.T) {
	for b := range 256 {
		want := byte(b)
		if b >= 97 && b <= 122 {
			want = byte(b - 32)
		}
		s := string([]byte{byte(b)})
		for _, c := range []struct{ text, want string }{
			{s, string([]byte{want})},
			{"a" + s + "z", "A" + string([]byte{want}) + "Z"},
			{s + s + "\xff", string([]byte{want, want, 0xFF})},
		} {
			if up := Upper(c.text); up != c.want {
				t.Errorf("Upper(%x): %x, not %x", c.text, up, c.want)
			}
		}
	}
}

// P14.4
func TestUpperOfTexts(t *testing.T) {
	for s, want := range map[string]string{
		"":                           "",
		"summary":                    "SUMMARY",
		"Summary;x-Lang=de_1":        "SUMMARY;X-LANG=DE_1",
		"ABC xyz @[`{":               "ABC XYZ @[`{",
		"abcdefghijklmnopqrstuvwxyz": "ABCDEFGHIJKLMNOPQRSTUVWXYZ",
		"ABCDEFGHIJKLMNOPQRSTUVWXYZ": "ABCDEFGHIJKLMNOPQRSTUVWXYZ",
		"\x00a\x00":                  "\x00A\x00",
		"a\r\nb":                     "A\r\nB",
	} {
		if up := Upper(s); up != want {
			t.Errorf("Upper(%q): %q, not %q", s, up, want)
		}
	}
}

// P14.4: what is not a to z stays, be it a small letter, too, or bad.
func TestUpperLeavesOtherBytes(t *testing.T) {
	for _, c := range append(append([]string{"\xc3\xa9", "\xc3\xbf", "\xc3\x9f", "\xce\xb1", "\xd1\x8f", "\xc4\xb1", "\xc5\xbf", "\xca\x80", "\xe1\xbc\x80",
		"\xef\xac\x81", "\xef\xbd\x81", "\xf0\x90\x90\xa8", "\xe1\xe2", "\xfa", "\xe1", "\xdf"}, good...), wrong...) {
		want := c
		if c == "a" {
			want = "A"
		}
		if up := Upper(c); up != want {
			t.Errorf("Upper(%x): %x", c, up)
		}
		if up := Upper("q" + c + "q" + c); up != "Q"+want+"Q"+want {
			t.Errorf("Upper of q, %x, q, %x: %x", c, c, up)
		}
	}
	for n := 0x80; n < 0x110000; n++ {
		if n >= 0xD800 && n < 0xE000 {
			continue
		}
		s := string(rune(n))
		if up := Upper(s); up != s {
			t.Fatalf("Upper(%x): %x", s, up)
		}
	}
}

// P14.4: what is capital once stays so, and has the same places.
func TestUpperKeepsPlaces(t *testing.T) {
	for _, a := range good {
		for _, b := range wrong {
			s := "xy" + a + b + "z" + a
			up := Upper(s)
			if len(up) != len(s) || Upper(up) != up || Len(up) != Len(s) || Bad(up) != Bad(s) || Odd(up) != Odd(s) {
				t.Errorf("Upper(%x): %x", s, up)
			}
			for n := range len(s) + 1 {
				if Cut(up, n) != Cut(s, n) {
					t.Errorf("Upper(%x) is cut at %d, for %d", s, Cut(up, n), n)
				}
			}
		}
	}
}

// P14.4, rule 3
func TestTextsAreNotChanged(t *testing.T) {
	for _, s := range append(append([]string{"abc", "a\xc3\xa9\xff\x00z"}, good...), wrong...) {
		given := strings.Clone(s)
		part := given[len(given)/2:]
		up := Upper(given)
		Bad(given)
		Odd(given)
		Len(given)
		for n := -1; n <= len(given)+1; n++ {
			Cut(given, n)
		}
		if given != s || part != s[len(s)/2:] || up != plainUpper(s) {
			t.Errorf("%x is %x, its part %x, its capitals %x", s, given, part, up)
		}
	}
}
