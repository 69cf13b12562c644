package utf

import "testing"

// P14.1, P14.2
func TestOfEmptyText(t *testing.T) {
	asks(t, "", -1, -1, 0)
	checkAll(t, "")
}

// P14.1, P14.2
func TestOfEachByteAlone(t *testing.T) {
	for b := range 256 {
		s := string([]byte{byte(b)})
		bad, odd := -1, -1
		if b >= 0x80 {
			bad, odd = 0, 0
		}
		if b < 0x20 && b != 9 || b == 0x7F {
			odd = 0
		}
		asks(t, s, bad, odd, 1)
		checkAll(t, s)
	}
}

// P14.1
func TestOddControls(t *testing.T) {
	for _, s := range []string{"\x00", "\x01", "\x02", "\x03", "\x04", "\x05", "\x06", "\x07", "\x08", "\x0a", "\x0b", "\x0c", "\x0d", "\x0e", "\x0f", "\x10",
		"\x11", "\x12", "\x13", "\x14", "\x15", "\x16", "\x17", "\x18", "\x19", "\x1a", "\x1b", "\x1c", "\x1d", "\x1e", "\x1f", "\x7f"} {
		asks(t, s, -1, 0, 1)
		asks(t, "ab"+s, -1, 2, 3)
		asks(t, "\t\xc3\xa9 "+s+"\xff", 5, 4, 5)
		asks(t, "\xff"+s, 0, 0, 2)
		asks(t, s+"\xff"+s, 1, 0, 3)
	}
	for _, s := range []string{"\t", " ", "!", "~", "a", "\xc2\x80", "\xc2\x85", "\xc2\x9f", "\xc2\xa0", "\xc2\xad", "\xe2\x80\xa8", "\xe2\x80\xa9", "\xe2\x80\x8b",
		"\xef\xbb\xbf", "\xef\xbf\xbd", "\xef\xbf\xbe", "\xef\xbf\xbf", "\xf3\xa0\x80\x81"} {
		asks(t, s, -1, -1, 1)
		asks(t, "\t"+s+"\t", -1, -1, 3)
		asks(t, s+"\x01", -1, len(s), 2)
	}
}

// P14.1: the first and the last character of two, three and four bytes, and what stands just outside of each range.
func TestBadAtEdges(t *testing.T) {
	for _, s := range good {
		if n := Bad(s); n != -1 {
			t.Errorf("%x: bad at %d", s, n)
		}
		if n := Len(s); n != 1 {
			t.Errorf("%x: len %d", s, n)
		}
	}
	for _, s := range wrong {
		asks(t, s, 0, 0, len(s))
	}
	asks(t, "\xc1\xbf", 0, 0, 2)
	asks(t, "\xc2\x7f", 0, 0, 2)
	asks(t, "\xdf\xc0", 0, 0, 2)
	asks(t, "\xe0\x9f\x80", 0, 0, 3)
	asks(t, "\xe0\xa0\x7f", 0, 0, 3)
	asks(t, "\xed\xa0\x80", 0, 0, 3)
	asks(t, "\xf0\x8f\x80\x80", 0, 0, 4)
	asks(t, "\xf0\x90\x80\x7f", 0, 0, 4)
	asks(t, "\xf4\x90\x80\x80", 0, 0, 4)
}

// P14.1: this character is told of bad bytes, too, but it is none.
func TestCharacterThatStandsForBadOnes(t *testing.T) {
	const s = "\xef\xbf\xbd"
	asks(t, s, -1, -1, 1)
	asks(t, s+s, -1, -1, 2)
	asks(t, "a"+s+"b", -1, -1, 3)
	asks(t, s+"\xff", 3, 3, 2)
	asks(t, "\xff"+s, 0, 0, 2)
	asks(t, s[:2]+s, 0, 0, 3)
	asks(t, s[:1]+s, 0, 0, 2)
	asks(t, s+s[:2], 3, 3, 3)
	asks(t, s+s[1:], 3, 3, 3)
	asks(t, "\xef\xbf\xbc\xef\xbf\xbe", -1, -1, 2)
	asks(t, "\xef\xbe\xbd\xef\xbf", 3, 3, 3)
}

// P14.1, P14.2: characters that are cut off behind one, two or three of their bytes, or that lack their first one.
func TestCharactersThatAreCutOff(t *testing.T) {
	for _, c := range good {
		for size := 1; size < len(c); size++ {
			asks(t, c[:size], 0, 0, size)
			asks(t, "ab"+c[:size], 2, 2, 2+size)
			asks(t, c+c[:size], len(c), len(c), 1+size)
			asks(t, c[size:], 0, 0, len(c)-size)
			for _, next := range good {
				asks(t, c[:size]+next, 0, 0, size+1)
				asks(t, "a"+c[:size]+next+c, 1, 1, size+3)
			}
		}
	}
}

// P14.1: the first one, at each place where it may stand.
func TestFirstOfMany(t *testing.T) {
	for _, ahead := range []string{"", "a", "\t", "\xc3\xa9", "\xe2\x82\xac", "\xf0\x9f\x98\x80", "\xef\xbf\xbd", "ab\xc3\xa9\xe2\x82\xac\xf0\x9f\x98\x80\t"} {
		for _, s := range wrong {
			places := Len(ahead)
			asks(t, ahead+s, len(ahead), len(ahead), places+len(s))
			asks(t, ahead+s+"z"+s, len(ahead), len(ahead), places+2*len(s)+1)
			asks(t, ahead+"\x00"+s, len(ahead)+1, len(ahead), places+1+len(s))
			asks(t, ahead+s+"\x00", len(ahead), len(ahead), places+1+len(s))
		}
	}
}
