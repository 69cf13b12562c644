package fold

import (
	"math/rand"
	"slices"
	"strings"
	"sync"
	"testing"

	"errand/api"
	"errand/fault"
)

// P15.3
func TestExample(t *testing.T) {
	a := strings.Repeat("a", 80)
	if rows := Fold(a); rows != a[:75]+"\r\n "+a[:5]+"\r\n" {
		t.Errorf("%q", rows)
	}
}

// P15.1, P15.2: all texts of up to seven bytes that matter.
func TestAllShortTexts(t *testing.T) {
	const letters = "\r\n \ta"
	for size := range 8 {
		l := make([]byte, size)
		all := 1
		for range size {
			all *= len(letters)
		}
		for n := range all {
			rest := n
			for i := range l {
				l[i] = letters[rest%len(letters)]
				rest /= len(letters)
			}
			checkUnfold(t, string(l))
		}
	}
}

// P15.1, P15.2
func TestRandomRows(t *testing.T) {
	r := rand.New(rand.NewSource(1501))
	for range 50000 {
		s := randomRows(r)
		given := strings.Clone(s)
		checkUnfold(t, given)
		if given != s {
			t.Fatalf("%q is %q", s, given)
		}
		lines, _ := Unfold(s)
		for _, l := range lines {
			checkPlace(t, l)
			for i := range len(l.Text) {
				if s[Place(l, i)] != l.Text[i] {
					t.Fatalf("%q: byte %d of %q is told to stand at %d", s, i, l.Text, Place(l, i))
				}
			}
		}
	}
}

// P15.2
func TestRandomLines(t *testing.T) {
	r := rand.New(rand.NewSource(1502))
	for range 50000 {
		checkPlace(t, randomLine(r))
	}
}

// P15.3, P15.4
func TestRandomTexts(t *testing.T) {
	r := rand.New(rand.NewSource(1503))
	for range 20000 {
		text := randomText(r, 250)
		checkFold(t, text)
		l := make([]byte, r.Intn(300))
		r.Read(l)
		checkFold(t, string(l))
	}
}

// P15.4: characters of each width, at each place ahead of a row's end.
func TestEachWidthAtEachPlace(t *testing.T) {
	for _, c := range chars {
		for ahead := range 160 {
			for _, more := range []string{"", "z", c, strings.Repeat(c, 40)} {
				checkFold(t, fill(ahead)+c+more)
			}
		}
	}
}

// P15.4: texts that are joined are told apart again.
func TestJoinedTextsAreUnfoldedAsTheyWere(t *testing.T) {
	r := rand.New(rand.NewSource(1504))
	for range 5000 {
		var texts []string
		for range r.Intn(5) {
			texts = append(texts, "x"+randomText(r, 120))
		}
		if r.Intn(3) == 0 {
			texts = append(texts, "")
		}
		rows := ""
		for _, text := range texts {
			rows += plainFold(text)
		}
		if Join(texts) != rows {
			t.Fatalf("Join(%q): %q", texts, Join(texts))
		}
		lines, err := Unfold(rows)
		told := func(l Line, text string) bool { return l.Text == text }
		if err != nil || !slices.EqualFunc(lines, texts, told) {
			t.Fatalf("%q are unfolded as %v, %v", texts, lines, err)
		}
	}
}

// P15.4: as long as the rows are no longer than a text may be.
func TestTheLongestTextThatIsUnfolded(t *testing.T) {
	text := strings.Repeat("a", 5767)
	if rows := Fold(text); len(rows) != 6000 {
		t.Fatalf("%d bytes", len(rows))
	}
	checkFold(t, text)
	refuses(t, Fold(text+"a"), api.ErrLong, 6000)
}

// Rule 1: very long texts end as well.
func TestVeryLongTexts(t *testing.T) {
	const rows = 20000
	text := strings.Repeat("a", 75+74*rows)
	next := "\r\n " + strings.Repeat("a", 74)
	if got := Fold(text); got != text[:75]+strings.Repeat(next, rows)+"\r\n" {
		t.Errorf("other rows, %d bytes", len(got))
	}
	if got := Join([]string{text, "", text}); got != Fold(text)+"\r\n"+Fold(text) {
		t.Errorf("other rows, %d bytes", len(got))
	}
	if got := Join(make([]string, 1000000)); got != strings.Repeat("\r\n", 1000000) {
		t.Errorf("other rows, %d bytes", len(got))
	}
	l := Line{Text: text}
	for i := range 100000 {
		l.Pieces = append(l.Pieces, Piece{i, 3 * i})
	}
	if at := Place(l, 50000); at != 150000 {
		t.Errorf("%d", at)
	}
}

// Rule 4: what is asked at the same time, or ahead, changes no answer.
func TestAnswersHangOnArgumentsAlone(t *testing.T) {
	var all sync.WaitGroup
	wrong := make([]int, 8)
	for k := range wrong {
		all.Go(func() {
			r := rand.New(rand.NewSource(int64(1510 + k)))
			for range 2000 {
				s, l, text := randomRows(r), randomLine(r), randomText(r, 200)
				lines, err := Unfold(s)
				e, at := plainWrong(s)
				if fault.Code(err) != e || fault.Place(err) != at || e == api.OK && !alike(lines, plainLines(s)) {
					wrong[k]++
				}
				if i := r.Intn(10); Place(l, i) != plainPlace(l, i) || Fold(text) != plainFold(text) {
					wrong[k]++
				}
			}
		})
	}
	all.Wait()
	for k, n := range wrong {
		if n != 0 {
			t.Errorf("goroutine %d: %d wrong", k, n)
		}
	}
}
