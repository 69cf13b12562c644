package escape

import (
	"math/rand"
	"slices"
	"strings"
	"sync"
	"testing"
)

// P16.1
func TestExample(t *testing.T) {
	if got := Escape("a,b\n"); got != `a\,b\n` {
		t.Errorf("%q", got)
	}
}

// eachText calls a function with all texts of so many bytes that matter.
func eachText(size int, do func(s string)) {
	l := make([]byte, size)
	count := 1
	for range size {
		count *= len(letters)
	}
	for n := range count {
		rest := n
		for i := range l {
			l[i] = letters[rest%len(letters)]
			rest /= len(letters)
		}
		do(string(l))
	}
}

// P16.1, P16.2, P16.3, P16.4: all texts and values of up to six bytes that matter.
func TestAllShortTexts(t *testing.T) {
	for size := range 7 {
		eachText(size, func(s string) {
			checkEscape(t, s)
			checkValue(t, s)
		})
	}
}

// P16.3, P16.4: all lists of up to three texts of up to two bytes that matter.
func TestAllShortLists(t *testing.T) {
	var texts []string
	for size := range 3 {
		eachText(size, func(s string) { texts = append(texts, s) })
	}
	checkList(t, nil)
	for _, x := range texts {
		checkList(t, []string{x})
		for _, y := range texts {
			checkList(t, []string{x, y})
			for _, z := range texts {
				checkList(t, []string{x, y, z})
			}
		}
	}
}

// P16.1, P16.2, P16.3, P16.4: all texts and values of two bytes of any kind.
func TestAllPairsOfBytes(t *testing.T) {
	for n := range 1 << 16 {
		s := string([]byte{byte(n >> 8), byte(n)})
		checkEscape(t, s)
		checkValue(t, s)
	}
}

// P16.1, P16.2, P16.3, P16.4
func TestRandomTexts(t *testing.T) {
	r := rand.New(rand.NewSource(1601))
	for range 50000 {
		s := randomText(r, 30)
		given := strings.Clone(s)
		checkEscape(t, given)
		checkValue(t, given)
		checkValue(t, plainEscape(given))
		if given != s {
			t.Fatalf("%q is %q", s, given)
		}
	}
}

// P16.3, P16.4
func TestRandomLists(t *testing.T) {
	r := rand.New(rand.NewSource(1602))
	for range 50000 {
		l := randomList(r)
		checkList(t, l)
		checkValue(t, Join(l))
	}
}

// P16.2, P16.3: a value with one byte of another kind is read as the chapter says, too.
func TestRandomValuesWithAnotherByte(t *testing.T) {
	r := rand.New(rand.NewSource(1603))
	for range 50000 {
		l := []byte(Join(randomList(r)) + "a")
		l[r.Intn(len(l))] = letters[r.Intn(len(letters))]
		checkValue(t, string(l))
	}
}

// Rule 1: very long texts end as well.
func TestVeryLongTexts(t *testing.T) {
	const n = 1000000
	for _, x := range signs {
		value := strings.Repeat(x.value, n)
		if got := Escape(strings.Repeat(x.text, n)); got != value {
			t.Errorf("%q: another value, %d bytes", x.text, len(got))
		}
		if got, err := Unescape(value); got != strings.Repeat(x.text, n) || err != nil {
			t.Errorf("%q: another text, %d bytes, %v", x.text, len(got), err)
		}
		if got, err := Unescape(value + ";"); got != "" || !isForm(err, 2*n) {
			t.Errorf("%q: %d bytes, %v", x.text, len(got), err)
		}
	}
	if got, err := Split(strings.Repeat(",", n)); !slices.Equal(got, make([]string, n+1)) || err != nil {
		t.Errorf("%d parts, %v", len(got), err)
	}
	if got := Join(make([]string, n)); got != strings.Repeat(",", n-1) {
		t.Errorf("%d bytes", len(got))
	}
	if got, err := Split(strings.Repeat("a,", n) + "\\"); len(got) != 0 || !isForm(err, 2*n) {
		t.Errorf("%d parts, %v", len(got), err)
	}
}

// Rule 4: what is asked at the same time, or ahead, changes no answer.
func TestAnswersHangOnArgumentsAlone(t *testing.T) {
	var all sync.WaitGroup
	wrong := make([]int, 8)
	for k := range wrong {
		all.Go(func() {
			r := rand.New(rand.NewSource(int64(1610 + k)))
			for range 5000 {
				s, l := randomText(r, 20), randomList(r)
				text, err := Unescape(s)
				if at := plainWrong(s, false); at >= 0 && (text != "" || !isForm(err, at)) || at < 0 && (text != plainUnescape(s) || err != nil) {
					wrong[k]++
				}
				texts, err := Split(s)
				if at := plainWrong(s, true); at >= 0 && (len(texts) != 0 || !isForm(err, at)) || at < 0 && (!slices.Equal(texts, plainSplit(s)) || err != nil) {
					wrong[k]++
				}
				again, err := Split(Join(l))
				if len(l) > 0 && (!slices.Equal(again, l) || err != nil) || Escape(s) != plainEscape(s) {
					wrong[k]++
				}
			}
		})
	}
	all.Wait()
	for k, n := range wrong {
		if n != 0 {
			t.Errorf("goroutine %d: %d wrong", k, n)
		}
	}
}
