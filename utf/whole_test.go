package utf

import (
	"math/rand"
	"strings"
	"sync"
	"testing"
)

// P14.3
func TestExample(t *testing.T) {
	if at := Cut("\xc3\xa9", 1); at != 0 {
		t.Errorf("%d", at)
	}
}

// P14.1, P14.2, P14.3: what is in the form of a character is one, if it could not be shorter, and is a number that characters have.
func TestAllNumbersInTheFormOfCharacters(t *testing.T) {
	for _, form := range []struct{ size, from, to int }{{2, 0x80, 0x800}, {3, 0x800, 0x10000}, {4, 0x10000, 0x200000}} {
		for n := range form.to {
			s := encoded(n, form.size)
			bad, count, step := 0, form.size, 1
			if n >= form.from && n < 0x110000 && (n < 0xD800 || n > 0xDFFF) {
				bad, count, step = -1, 1, form.size
			}
			if Bad(s) != bad || Odd(s) != bad || Len(s) != count {
				t.Fatalf("%x, %x: bad %d, odd %d, len %d", n, s, Bad(s), Odd(s), Len(s))
			}
			for at := range form.size + 1 {
				if cut := Cut(s, at); cut != at/step*step {
					t.Fatalf("%x, %x: cut at %d, for %d", n, s, cut, at)
				}
			}
		}
	}
}

// P14.1, P14.2, P14.3
func TestAllTextsOfTwoBytes(t *testing.T) {
	for n := range 1 << 16 {
		checkAll(t, string([]byte{byte(n >> 8), byte(n)}))
	}
}

// P14.1, P14.2, P14.3
func TestTextsOfThreeBytes(t *testing.T) {
	p := &plain{}
	for i := range len(edgeBytes) {
		for n := range 1 << 16 {
			p.check(t, string([]byte{edgeBytes[i], byte(n >> 8), byte(n)}))
		}
	}
}

// P14.1, P14.2, P14.3: four bytes of those at the edges, and a fifth, which no character has.
func TestTextsOfFourBytes(t *testing.T) {
	const all = len(edgeBytes)
	p := &plain{}
	l := make([]byte, 5)
	for n := range all * all * all * all {
		rest := n
		for i := range 4 {
			l[i] = edgeBytes[rest%all]
			rest /= all
		}
		l[4] = "a\x80\xc3\x00"[n%4]
		p.check(t, string(l[:4]))
		p.check(t, string(l))
	}
}

// P14.1, P14.2, P14.3, P14.4
func TestPairsAndThrees(t *testing.T) {
	parts := append(append([]string{}, good...), wrong...)
	p := &plain{}
	for _, a := range parts {
		for _, b := range parts {
			checkAll(t, a+b)
			for _, c := range parts {
				p.check(t, a+b+c)
			}
		}
	}
}

// P14.1, P14.2, P14.3, P14.4
func TestRandomTexts(t *testing.T) {
	r := rand.New(rand.NewSource(1401))
	for range 100000 {
		s := randomText(r)
		checkAll(t, s)
		given := strings.Clone(s)
		if Upper(given); given != s {
			t.Fatalf("%x is %x", s, given)
		}
	}
	p := &plain{}
	for range 100000 {
		l := make([]byte, r.Intn(20))
		r.Read(l)
		p.check(t, string(l))
	}
}

// Rule 1: very long texts end as well.
func TestVeryLongTexts(t *testing.T) {
	const times = 1000000
	for _, c := range []struct {
		s           string
		bad, places int
	}{{"a", -1, 1}, {"\xc3\xa9", -1, 1}, {"\xef\xbf\xbd", -1, 1}, {"\xf0\x9f\x98\x80", -1, 1}, {"\xff", 0, 1}, {"\xf0\x9f\x98", 0, 3}} {
		s := strings.Repeat(c.s, times)
		asks(t, s, c.bad, c.bad, times*c.places)
		if at := Cut(s, len(s)-len(c.s)); at != len(s)-len(c.s) {
			t.Errorf("%x: cut at %d", c.s, at)
		}
		if up := Upper(s); up != strings.Repeat(plainUpper(c.s), times) {
			t.Errorf("%x: other capitals", c.s)
		}
	}
}

// Rule 4: what is asked at the same time, or ahead, changes no answer.
func TestAnswersHangOnArgumentsAlone(t *testing.T) {
	var all sync.WaitGroup
	wrong := make([]int, 8)
	for i := range wrong {
		all.Go(func() {
			r := rand.New(rand.NewSource(int64(1402 + i)))
			p := &plain{}
			for range 10000 {
				s := randomText(r)
				n := r.Intn(len(s)+3) - 1
				p.read(s)
				if Bad(s) != p.bad || Odd(s) != p.odd || Len(s) != p.count || Cut(s, n) != p.cut(n) || Upper(s) != plainUpper(s) {
					wrong[i]++
				}
			}
		})
	}
	all.Wait()
	for i, n := range wrong {
		if n != 0 {
			t.Errorf("goroutine %d: %d wrong", i, n)
		}
	}
}
