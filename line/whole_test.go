package line

import (
	"math/rand"
	"slices"
	"strings"
	"sync"
	"testing"

	"errand/api"
	"errand/param"
)

// P18.3
func TestExample(t *testing.T) {
	l, err := Parse("summary;language=en:Milk")
	p, ok := param.Find(l.Params, "LANGUAGE")
	if err != nil || l.Name != "SUMMARY" || l.Value != "Milk" || len(l.Params) != 1 || !ok || !slices.Equal(p.Vals, []string{"en"}) {
		t.Errorf("%q, %v", l, err)
	}
}

// eachText calls a function with all texts of so many of some bytes.
func eachText(bytes string, size int, do func(s string)) {
	l := make([]byte, size)
	count := 1
	for range size {
		count *= len(bytes)
	}
	for n := range count {
		rest := n
		for i := range l {
			l[i] = bytes[rest%len(bytes)]
			rest /= len(bytes)
		}
		do(string(l))
	}
}

// P18.3, P18.7: all texts of up to four bytes that matter, alone, behind a name, as a value, and behind parameters.
func TestAllShortTexts(t *testing.T) {
	for size := range 5 {
		eachText(";=,:\"Xx-_ \n\x00\xc3\xa9", size, func(s string) {
			checkParse(t, s)
			checkParse(t, "Name"+s)
			checkParse(t, "X:"+s)
			checkParse(t, `x;Y=a,"b:`+s)
			checkParse(t, `x;Y=a`+s+":v")
		})
	}
}

// P18.3, P18.7: all texts of up to seven bytes that tell where the parameters and the value begin.
func TestAllShortTextsOfSigns(t *testing.T) {
	for size := range 8 {
		eachText(";=:\"X", size, func(s string) {
			checkParse(t, s)
			checkParse(t, "X;A="+s)
		})
	}
}

// P18.1, P18.2, P18.3, P18.7: all names and values of two bytes of any kind.
func TestAllPairsOfBytes(t *testing.T) {
	for n := range 1 << 16 {
		s := string([]byte{byte(n >> 8), byte(n)})
		checkPrint(t, of("X", s))
		checkPrint(t, of(s, "v"))
		checkParse(t, s)
		checkParse(t, s+":v")
		checkParse(t, "X:"+s)
		checkParse(t, "X"+s+":v")
		checkParse(t, "X;Y=a:b"+s)
	}
}

// P18.1, P18.2, P18.7
func TestRandomLines(t *testing.T) {
	r := rand.New(rand.NewSource(1801))
	var told [32]int
	for range 60000 {
		l := randomLine(r)
		checkPrint(t, l)
		told[plainCheck(l)]++
	}
	for _, e := range []api.Errno{api.OK, api.ErrForm, api.ErrMany, api.ErrLong, api.ErrText, api.ErrTwice} {
		if told[e] < 200 {
			t.Errorf("only %d lines of %d", told[e], e)
		}
	}
}

// P18.3, P18.7
func TestRandomTexts(t *testing.T) {
	r := rand.New(rand.NewSource(1802))
	var own, inner [32]int
	for range 60000 {
		s := randomText(r)
		checkParse(t, s)
		if want := plainParse(s); want.inner {
			inner[want.e]++
		} else {
			own[want.e]++
		}
	}
	for _, e := range []api.Errno{api.OK, api.ErrForm, api.ErrLong, api.ErrText} {
		if own[e] < 200 {
			t.Errorf("only %d texts of %d", own[e], e)
		}
	}
	for _, e := range []api.Errno{api.ErrMany, api.ErrForm, api.ErrTwice, api.ErrCut, api.ErrText, api.ErrLong} {
		if inner[e] < 50 {
			t.Errorf("only %d texts of %d in their parameters", inner[e], e)
		}
	}
}

// P18.4, P18.5, P18.6
func TestRandomLists(t *testing.T) {
	r := rand.New(rand.NewSource(1803))
	for range 20000 {
		l, x := randomLines(r), randomLine(r)
		x.Name = names[r.Intn(5)]
		checkLists(t, l, x)
		other := randomLines(r)
		if r.Intn(2) == 0 {
			other = copyOf(l)
		}
		if len(other) > 0 && r.Intn(2) == 0 {
			other[r.Intn(len(other))] = x
		}
		if Same(l, other) != alike(l, other) || !Same(l, copyOf(l)) {
			t.Fatalf("Same(%q, %q): %t", l, other, Same(l, other))
		}
	}
}

// Rule 1: very long texts and lists end as well.
func TestVeryLongTexts(t *testing.T) {
	const n = 1000000
	refuses(t, strings.Repeat("x", n), api.ErrForm, 0)
	refuses(t, strings.Repeat(":", n), api.ErrForm, 0)
	refuses(t, "X:"+strings.Repeat("\x00", n), api.ErrLong, 2)
	refuses(t, "X"+strings.Repeat(" ", n), api.ErrForm, 1)
	refusesParams(t, "X", strings.Repeat(";", n), api.ErrForm, 1)
	refusesParams(t, "X", ";Y=\""+strings.Repeat("a", n), api.ErrCut, n+4)
	l := slices.Repeat([]Line{of("X", "v", one("P", "a")), of("Y", "w")}, n/4)
	if Count(l, "X") != n/4 || len(Drop(l, "X")) != n/4 || len(Set(l, of("Y", "v"))) != n/4+1 || !Same(l, Drop(l, "Z")) {
		t.Error("a long list")
	}
	if x, ok := Get(append(l, of("Z", "v")), "Z"); !ok || !equal(x, of("Z", "v")) {
		t.Errorf("%q, %t", x, ok)
	}
	if e := Check(of("X", strings.Repeat("a", n))); e != api.ErrLong {
		t.Errorf("%d", e)
	}
	if e := Check(of(strings.Repeat("X", n), "v")); e != api.ErrForm {
		t.Errorf("%d", e)
	}
}

// Rule 4: what is asked at the same time, or ahead, changes no answer.
func TestAnswersHangOnArgumentsAlone(t *testing.T) {
	var all sync.WaitGroup
	wrong := make([]int, 8)
	shared := randomLines(rand.New(rand.NewSource(1809)))
	for k := range wrong {
		all.Go(func() {
			r := rand.New(rand.NewSource(int64(1810 + k)))
			for range 3000 {
				s, x := randomText(r), randomLine(r)
				x.Name = names[r.Intn(4)]
				e := plainCheck(x)
				text, got := Print(x)
				if !matches(s, plainParse(s)) || got != e || Check(x) != e || e == api.OK && text != plainText(x) {
					wrong[k]++
				}
				if !alike(Set(shared, x), plainSet(shared, x)) || !alike(Drop(shared, x.Name), plainDrop(shared, x.Name)) {
					wrong[k]++
				}
			}
		})
	}
	all.Wait()
	for k, n := range wrong {
		if n != 0 {
			t.Errorf("goroutine %d: %d wrong", k, n)
		}
	}
}
