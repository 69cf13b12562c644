package sheet

import (
	"math"
	"math/rand"
	"strings"
	"testing"

	"errand/api"
)

func noughts(n int) string { return strings.Repeat("\x00", n) }

// six are the six bytes of a number, the highest first, worked out apart from octet.
func six(n int) string {
	b := make([]byte, 6)
	for i := range b {
		b[i] = byte(n >> (40 - 8*i))
	}
	return string(b)
}

// between is a text of 64 bytes, if the body has 52: two numbers, be they stamps or not, and a body.
func between(first int, body string, last int) string { return six(first) + body + six(last) }

// bodyOf is a body of n bytes, of which none is 0 and neighbours differ.
func bodyOf(n int) string {
	b := make([]byte, n)
	for i := range b {
		b[i] = byte(i%200 + 33)
	}
	return string(b)
}

func mustSeal(t *testing.T, stamp int, body string) string {
	t.Helper()
	s, e := Seal(stamp, body)
	if e != api.OK || len(s) != 64 {
		t.Fatalf("Seal(%d, %q): %q, %v", stamp, body, s, e)
	}
	return s
}

// someStamps are stamps that may be: the edges, and those at which a further byte comes in.
func someStamps() []int {
	stamps := []int{1, 2, 3, 257, 258, 0x0102030405, 1<<40 - 1, 1 << 40}
	for i := 8; i < 40; i += 8 {
		stamps = append(stamps, 1<<i-1, 1<<i, 1<<i+1)
	}
	return stamps
}

// noStamps are numbers that no stamp is; those of them that have room in six bytes may be read.
func noStamps() []int {
	return []int{0, -1, -2, -258, math.MinInt, 1<<40 + 1, 1<<40 + 2, 1 << 41, 1<<48 - 1, 1 << 48, 1<<48 + 1, 1<<56 + 1, math.MaxInt}
}

func TestSealOfTheExample(t *testing.T) { // P4.1
	want := "\x00\x00\x00\x00\x01\x02ab" + noughts(50) + "\x00\x00\x00\x00\x01\x02"
	if s, e := Seal(258, "ab"); e != api.OK || s != want {
		t.Errorf("%q, %v", s, e)
	}
}

func TestSealLaysTheStampTwice(t *testing.T) { // P4.1
	for _, x := range []struct {
		stamp int
		mark  string
	}{
		{1, "\x00\x00\x00\x00\x00\x01"},
		{255, "\x00\x00\x00\x00\x00\xff"},
		{256, "\x00\x00\x00\x00\x01\x00"},
		{0x0102030405, "\x00\x01\x02\x03\x04\x05"},
		{1<<40 - 1, "\x00\xff\xff\xff\xff\xff"},
		{1 << 40, "\x01\x00\x00\x00\x00\x00"},
	} {
		body := bodyOf(52)
		if s := mustSeal(t, x.stamp, body); s != x.mark+body+x.mark {
			t.Errorf("%d: %q", x.stamp, s)
		}
	}
}

func TestSealFillsTheBodyUp(t *testing.T) { // P4.1
	for n := range 53 {
		for _, body := range []string{bodyOf(n), noughts(n), strings.Repeat("\xff", n)} {
			want := six(7) + body + noughts(52-n) + six(7)
			if s := mustSeal(t, 7, body); s != want {
				t.Errorf("a body of %d: %q", n, s)
			}
		}
	}
}

func TestSealRefuses(t *testing.T) { // P4.1
	for _, stamp := range noStamps() {
		for _, n := range []int{0, 1, 51, 52, 53, 54, 64, 70000} { // the stamp's error comes ahead of the body's
			if s, e := Seal(stamp, bodyOf(n)); e != api.ErrRange || s != "" {
				t.Errorf("Seal(%d, a body of %d): %q, %v", stamp, n, s, e)
			}
		}
	}
	for _, stamp := range someStamps() {
		for _, n := range []int{53, 54, 64, 70000} {
			if s, e := Seal(stamp, bodyOf(n)); e != api.ErrLong || s != "" {
				t.Errorf("Seal(%d, a body of %d): %q, %v", stamp, n, s, e)
			}
		}
	}
	if s, e := Seal(1, noughts(53)); e != api.ErrLong || s != "" { // bytes 0 count as others do
		t.Errorf("%q, %v", s, e)
	}
}

// checkOpen asks Open and Whole; with an error the others are to be zero values.
func checkOpen(t *testing.T, s string, stamp int, body string, e api.Errno) {
	t.Helper()
	if n, b, f := Open(s); n != stamp || b != body || f != e {
		t.Errorf("Open(%q): %d, %q, %v, not %d, %q, %v", s, n, b, f, stamp, body, e)
	}
	if w := Whole(s); w != (e == api.OK) {
		t.Errorf("Whole(%q): %v", s, w)
	}
}

func TestOpenOfWhatSealGave(t *testing.T) { // P4.1, P4.2
	for _, stamp := range someStamps() {
		for _, n := range []int{0, 1, 2, 26, 51, 52} {
			body := bodyOf(n)
			checkOpen(t, mustSeal(t, stamp, body), stamp, body+noughts(52-n), api.OK)
		}
	}
}

func TestOpenOfAWholeSheet(t *testing.T) { // P4.2
	for _, stamp := range someStamps() {
		for _, body := range []string{bodyOf(52), noughts(52), strings.Repeat("\xff", 52)} {
			checkOpen(t, between(stamp, body, stamp), stamp, body, api.OK)
		}
	}
}

func TestOpenOfAnotherLength(t *testing.T) { // P4.2
	whole := between(1, bodyOf(52), 1)
	checkOpen(t, "", 0, "", api.ErrForm)
	checkOpen(t, whole[:63], 0, "", api.ErrForm)
	checkOpen(t, whole[1:], 0, "", api.ErrForm)
	checkOpen(t, whole+"\x00", 0, "", api.ErrForm)
	checkOpen(t, whole+"\x01", 0, "", api.ErrForm)
	checkOpen(t, "\x00"+whole, 0, "", api.ErrForm)
	for n := range 200 {
		if n == 64 {
			continue
		}
		checkOpen(t, strings.Repeat("\x00", n), 0, "", api.ErrForm) // a length's error comes ahead of a stamp's
		checkOpen(t, bodyOf(n), 0, "", api.ErrForm)                 // and of that of two stamps
		checkOpen(t, strings.Repeat(whole, 4)[:n], 0, "", api.ErrForm)
	}
	checkOpen(t, strings.Repeat(whole, 1024), 0, "", api.ErrForm)
}

func TestOpenOfTwoStamps(t *testing.T) { // P4.2
	for _, x := range [][2]int{
		{1, 2}, {2, 1}, {258, 513}, {1 << 40, 1}, {1, 1 << 40}, {1 << 40, 1<<40 - 1},
		{0, 1}, {1, 0}, {0, 1<<40 + 1}, {1<<40 + 1, 1 << 40}, {1 << 40, 1<<40 + 1}, {1<<48 - 1, 0}, {1<<48 - 1, 1<<48 - 2},
	} { // that they differ comes ahead of their range
		checkOpen(t, between(x[0], bodyOf(52), x[1]), 0, "", api.ErrCut)
	}
	for i := range 48 { // they are the same only if each bit is
		checkOpen(t, between(258, bodyOf(52), 258^1<<i), 0, "", api.ErrCut)
		checkOpen(t, between(258^1<<i, bodyOf(52), 258), 0, "", api.ErrCut)
	}
}

func TestOpenOfStampsOutOfRange(t *testing.T) { // P4.2
	for _, n := range []int{0, 1<<40 + 1, 1<<40 + 2, 1<<40 + 256, 1 << 41, 1 << 47, 1<<48 - 1} {
		checkOpen(t, between(n, bodyOf(52), n), 0, "", api.ErrRange)
	}
	checkOpen(t, noughts(64), 0, "", api.ErrRange)
	checkOpen(t, strings.Repeat("\xff", 64), 0, "", api.ErrRange)
}

func TestTop(t *testing.T) { // P4.3
	body := bodyOf(52)
	for _, x := range []struct{ first, last, want int }{
		{1, 1, 1},
		{258, 258, 258},
		{1 << 40, 1 << 40, 1 << 40},
		{3, 2, 3},
		{2, 3, 3},
		{256, 255, 256},
		{255, 256, 256},
		{1 << 40, 0xff, 1 << 40},
		{0xff, 1 << 40, 1 << 40},
		{0, 0, 0},
		{0, 1, 1},
		{1, 0, 1},
		{1<<40 + 1, 1<<40 + 1, 1<<40 + 1},
		{1<<40 + 1, 7, 1<<40 + 1},
		{7, 1<<40 + 1, 1<<40 + 1},
		{1<<48 - 1, 0, 1<<48 - 1},
		{0, 1<<48 - 1, 1<<48 - 1},
		{1 << 47, 1<<48 - 1, 1<<48 - 1},
	} {
		if n := Top(between(x.first, body, x.last)); n != x.want {
			t.Errorf("%d and %d: %d", x.first, x.last, n)
		}
	}
	for _, stamp := range someStamps() {
		if n := Top(mustSeal(t, stamp, body)); n != stamp {
			t.Errorf("of %d: %d", stamp, n)
		}
	}
	if n := Top(between(5, strings.Repeat("\xff", 52), 4)); n != 5 { // the body is none of the numbers
		t.Error(n)
	}
}

func TestTopOfAnotherLength(t *testing.T) { // P4.3
	whole := between(9, bodyOf(52), 9)
	for n := range 200 {
		if n == 64 {
			continue
		}
		for _, s := range []string{strings.Repeat("\x01", n), strings.Repeat(whole, 4)[:n]} {
			if top := Top(s); top != 0 {
				t.Errorf("of %d bytes: %d", n, top)
			}
		}
	}
}

// checkBroken breaks a sheet that is written over another text off behind each of its bytes.
func checkBroken(t *testing.T, ahead, sheet string) {
	t.Helper()
	for n := range 65 {
		s := sheet[:n] + ahead[n:]
		if s == ahead || s == sheet {
			continue
		}
		if Whole(s) {
			t.Errorf("broken off behind %d bytes, it is whole: %q over %q", n, sheet, ahead)
		}
		if _, _, e := Open(s); e != api.ErrCut {
			t.Errorf("broken off behind %d bytes: %v", n, e)
		}
	}
}

func TestASheetBrokenOffOverALesserOne(t *testing.T) { // P4.4
	stamps := someStamps()
	bodies := []string{"", bodyOf(52), noughts(52), "ab", strings.Repeat("\xff", 52)}
	for _, lesser := range stamps {
		for _, stamp := range stamps {
			if lesser >= stamp {
				continue
			}
			for i, body := range bodies {
				ahead := mustSeal(t, lesser, bodies[(i+1)%len(bodies)])
				checkBroken(t, ahead, mustSeal(t, stamp, body))
				checkBroken(t, mustSeal(t, lesser, body), mustSeal(t, stamp, body))
			}
		}
	}
}

func TestASheetBrokenOffOverBytesNought(t *testing.T) { // P4.4
	for _, stamp := range someStamps() {
		for _, body := range []string{"", "ab", bodyOf(52), strings.Repeat("\xff", 52)} {
			s := mustSeal(t, stamp, body)
			checkBroken(t, noughts(64), s)
			if Whole(noughts(64)) || !Whole(s) {
				t.Errorf("%d: the text ahead is whole, or the new one is not", stamp)
			}
		}
	}
}

func TestSheetsBrokenOffAtRandom(t *testing.T) { // P4.4
	r := rand.New(rand.NewSource(4))
	for range 2000 {
		lesser := 1 + r.Intn(1<<uint(1+r.Intn(40))-1)
		stamp := lesser + 1 + r.Intn(1<<40-lesser)
		checkBroken(t, mustSeal(t, lesser, randomText(r, r.Intn(53))), mustSeal(t, stamp, randomText(r, r.Intn(53))))
	}
}

func randomText(r *rand.Rand, n int) string {
	b := make([]byte, n)
	r.Read(b)
	return string(b)
}

// plainOpen goes by the chapter's words, without octet.
func plainOpen(s string) (int, string, api.Errno) {
	if len(s) != 64 {
		return 0, "", api.ErrForm
	}
	if s[:6] != s[58:] {
		return 0, "", api.ErrCut
	}
	n := plainNumber(s[:6])
	if n < 1 || n > 1<<40 {
		return 0, "", api.ErrRange
	}
	return n, s[6:58], api.OK
}

func plainNumber(s string) int {
	n := 0
	for i := range len(s) {
		n = n*256 + int(s[i])
	}
	return n
}

func plainTop(s string) int {
	if len(s) != 64 {
		return 0
	}
	return max(plainNumber(s[:6]), plainNumber(s[58:]))
}

func TestTextsAtRandom(t *testing.T) { // P4.2, P4.3
	r := rand.New(rand.NewSource(44))
	found := map[api.Errno]int{}
	for range 20000 {
		s := randomText(r, r.Intn(70))
		if r.Intn(3) > 0 {
			m := noughts(1) + randomText(r, 5)
			if r.Intn(4) == 0 {
				m = randomText(r, 6)
			}
			s = m + randomText(r, 52) + m
		}
		stamp, body, e := plainOpen(s)
		found[e]++
		checkOpen(t, s, stamp, body, e)
		if n := Top(s); n != plainTop(s) {
			t.Errorf("Top(%q): %d", s, n)
		}
	}
	for _, e := range []api.Errno{api.OK, api.ErrForm, api.ErrCut, api.ErrRange} {
		if found[e] == 0 {
			t.Errorf("no text told %v", e)
		}
	}
}

// What comes in stays as it was, and the same is answered again.
func TestWhatComesInStays(t *testing.T) { // P4.1, P4.2, P4.3
	for _, n := range []int{0, 2, 52, 53, 63, 64, 65} {
		s := bodyOf(n)
		if n == 64 {
			s = between(258, bodyOf(52), 258)
		}
		was := strings.Clone(s)
		for range 2 {
			sealed, e := Seal(258, s)
			again, f := Seal(258, was)
			if s != was || sealed != again || e != f {
				t.Errorf("Seal of %d bytes: %q, %v, then %q, %v", n, sealed, e, again, f)
			}
			stamp, body, e := plainOpen(was)
			checkOpen(t, s, stamp, body, e)
			if top := Top(s); s != was || top != plainTop(was) {
				t.Errorf("Top of %d bytes: %d", n, top)
			}
		}
	}
}
