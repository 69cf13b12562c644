package utf

import (
	"math"
	"math/rand"
	"strings"
	"testing"
)

// edgeBytes are the ends of all ranges that the chapter names, and those beside them.
const edgeBytes = "\x00\x09\x0a\x1f\x20A`az{\x7e\x7f\x80\x8f\x90\x9f\xa0\xbd\xbf\xc0\xc1\xc2\xdf\xe0\xe1\xec\xed\xee\xef\xf0\xf1\xf3\xf4\xf5\xff"

// good are characters of one to four bytes, the first and the last of each range among them.
var good = []string{"\x00", "\x09", "\x1f", " ", "a", "~", "\x7f", "\xc2\x80", "\xc3\xa9", "\xdf\xbf", "\xe0\xa0\x80", "\xe0\xbf\xbf", "\xe1\x80\x80",
	"\xe2\x82\xac", "\xec\xbf\xbf", "\xed\x80\x80", "\xed\x9f\xbf", "\xee\x80\x80", "\xef\xbb\xbf", "\xef\xbf\xbd", "\xef\xbf\xbf", "\xf0\x90\x80\x80",
	"\xf0\x9f\x98\x80", "\xf0\xbf\xbf\xbf", "\xf1\x80\x80\x80", "\xf3\xbf\xbf\xbf", "\xf4\x80\x80\x80", "\xf4\x8f\xbf\xbf"}

// wrong are texts all of whose bytes are bad, though most of them look like a character.
var wrong = []string{"\x80", "\xbf", "\xc0", "\xc1", "\xc2", "\xdf", "\xe0", "\xed", "\xef", "\xf0", "\xf4", "\xf5", "\xff", "\xc0\x80", "\xc0\xaf",
	"\xc1\xbf", "\xc2\xc2", "\xdf\xc0", "\xe0\x80\x80", "\xe0\x9f\xbf", "\xe0\xc0\x80", "\xe1\x80", "\xe1\x80\xc0", "\xed\xa0\x80", "\xed\xbf\xbf",
	"\xef\xbf", "\xef\xbf\xc0", "\xf0\x80\x80\x80", "\xf0\x8f\xbf\xbf", "\xf0\x90", "\xf0\x90\x80", "\xf0\x90\x80\xc0", "\xf4\x8f\xbf", "\xf4\x90\x80\x80",
	"\xf4\xbf\xbf\xbf", "\xf5\x80\x80\x80", "\xf7\xbf\xbf\xbf", "\xf8\x88\x80\x80\x80", "\xfc\x84\x80\x80\x80\x80", "\xfe\x80", "\xff\xbf\xbf\xbf"}

// oddInts are no place of a short text. Cut off to 8, 16 or 32 bits, many of them would be some.
var oddInts = []int{math.MinInt, math.MinInt + 1, math.MinInt + 2, -1 << 62, -1 << 32, -1<<32 + 1, -1 << 31, -1 << 16, -1<<16 + 1, -256, -255, -128, -3, -2, -1,
	1 << 8, 1<<8 + 1, 1 << 16, 1<<16 + 1, 1 << 31, 1<<31 - 1, 1 << 32, 1<<32 + 1, 1 << 53, 1 << 62, math.MaxInt - 1, math.MaxInt}

// stands tells whether a text has, at a place, a byte from one to another.
func stands(s string, at int, from, to byte) bool {
	return at < len(s) && s[at] >= from && s[at] <= to
}

// plainStep tells how many bytes the character at a place has, in the chapter's words; 0, if the byte there is bad.
func plainStep(s string, at int) int {
	from, to := byte(0x80), byte(0xBF)
	switch s[at] {
	case 0xE0:
		from = 0xA0
	case 0xED:
		to = 0x9F
	case 0xF0:
		from = 0x90
	case 0xF4:
		to = 0x8F
	}
	second := stands(s, at+1, from, to)
	third := second && stands(s, at+2, 0x80, 0xBF)
	fourth := third && stands(s, at+3, 0x80, 0xBF)
	switch {
	case s[at] < 0x80:
		return 1
	case stands(s, at, 0xC2, 0xDF) && second:
		return 2
	case stands(s, at, 0xE0, 0xEF) && third:
		return 3
	case stands(s, at, 0xF0, 0xF4) && fourth:
		return 4
	}
	return 0
}

// plain is what the chapter says of a text.
type plain struct {
	bad, odd, count int
	places          []int // those that are gone through, and the length
}

// read goes through a text.
func (p *plain) read(s string) {
	p.bad, p.odd, p.count, p.places = -1, -1, 0, p.places[:0]
	for at := 0; at < len(s); {
		step := plainStep(s, at)
		if step == 0 && p.bad < 0 {
			p.bad = at
		}
		control := s[at] < 0x20 && s[at] != 9 || s[at] == 0x7F
		if (step == 0 || control) && p.odd < 0 {
			p.odd = at
		}
		p.places = append(p.places, at)
		p.count++
		at += max(step, 1)
	}
	p.places = append(p.places, len(s))
}

// cut tells where a text may be cut, that was gone through.
func (p *plain) cut(n int) int {
	for i := len(p.places) - 1; i >= 0; i-- {
		if p.places[i] <= n {
			return p.places[i]
		}
	}
	return 0
}

// plainUpper is what the chapter says of capitals.
func plainUpper(s string) string {
	text := ""
	for i := range len(s) {
		at := strings.IndexByte("abcdefghijklmnopqrstuvwxyz", s[i])
		if at < 0 {
			text += s[i : i+1]
			continue
		}
		text += "ABCDEFGHIJKLMNOPQRSTUVWXYZ"[at : at+1]
	}
	return text
}

// check holds Bad, Odd, Len and Cut of a text against the chapter's words.
func (p *plain) check(t *testing.T, s string) {
	p.read(s)
	if bad, odd, n := Bad(s), Odd(s), Len(s); bad != p.bad || odd != p.odd || n != p.count {
		t.Helper()
		t.Fatalf("%x: bad %d, odd %d, len %d, not %d, %d, %d", s, bad, odd, n, p.bad, p.odd, p.count)
	}
	for n := -2; n <= len(s)+2; n++ {
		if at := Cut(s, n); at != p.cut(n) {
			t.Helper()
			t.Fatalf("Cut(%x, %d): %d, not %d", s, n, at, p.cut(n))
		}
	}
}

// checkAll holds all calls against the chapter's words, at ints of any width, too.
func checkAll(t *testing.T, s string) {
	t.Helper()
	p := &plain{}
	p.check(t, s)
	for _, n := range oddInts {
		if at := Cut(s, n); at != p.cut(n) {
			t.Fatalf("Cut(%x, %d): %d, not %d", s, n, at, p.cut(n))
		}
	}
	if up := Upper(s); up != plainUpper(s) {
		t.Fatalf("Upper(%x): %x, not %x", s, up, plainUpper(s))
	}
}

// asks holds what is asked of a text against numbers that are written out.
func asks(t *testing.T, s string, bad, odd, count int) {
	t.Helper()
	if b, o, n := Bad(s), Odd(s), Len(s); b != bad || o != odd || n != count {
		t.Errorf("%x: bad %d, odd %d, len %d, not %d, %d, %d", s, b, o, n, bad, odd, count)
	}
}

// encoded is a number in the form of a character of so many bytes, be it one or not.
func encoded(n, size int) string {
	l := make([]byte, size)
	for i := size - 1; i > 0; i-- {
		l[i] = byte(0x80 + n%64)
		n /= 64
	}
	l[0] = byte(0x100 - 0x100>>size + n)
	return string(l)
}

// randomText is made of characters, of what is none, and of bytes of any kind.
func randomText(r *rand.Rand) string {
	text := ""
	for range r.Intn(12) {
		switch r.Intn(6) {
		case 0:
			text += string([]byte{byte(r.Intn(256))})
		case 1:
			text += edgeBytes[r.Intn(len(edgeBytes)):][:1]
		case 2:
			text += wrong[r.Intn(len(wrong))]
		case 3:
			c := good[r.Intn(len(good))]
			text += c[:1+r.Intn(len(c))]
		case 4:
			text += string(rune(r.Intn(0x110000)))
		default:
			text += good[r.Intn(len(good))]
		}
	}
	return text
}
