package fold

import (
	"math"
	"math/rand"
	"slices"
	"strings"
	"testing"
	"unicode/utf8"

	"errand/api"
	"errand/fault"
)

// oddInts are no place of a short text. Cut off to 8, 16 or 32 bits, many of them would be some.
var oddInts = []int{math.MinInt, math.MinInt + 1, math.MinInt + 2, -1 << 62, -1 << 32, -1<<32 + 1, -1 << 31, -1 << 16, -1<<16 + 1, -256, -255, -128, -3, -2, -1,
	1 << 8, 1<<8 + 1, 1 << 16, 1<<16 + 1, 1 << 31, 1<<31 - 1, 1 << 32, 1<<32 + 1, 1 << 53, 1 << 62, math.MaxInt - 1, math.MaxInt}

// chars are characters of one to four bytes, and bytes that are in none.
var chars = []string{"a", "Z", " ", "\t", "\x00", "\x7f", "\xc3\xa9", "\xdf\xbf", "\xe2\x82\xac", "\xef\xbf\xbd", "\xed\x9f\xbf", "\xf0\x9f\x98\x80",
	"\xf4\x8f\xbf\xbf", "\x80", "\xbf", "\xc3", "\xe2\x82", "\xf0\x9f\x98", "\xed\xa0\x80", "\xf4\x90\x80\x80", "\xff"}

// ends are the ends of a text's rows, and what looks like one.
var ends = []string{"\r\n", "\r\n", "\r\n", "\n", "\n", "\r", "\n\n", "\r\n\r\n", "\r\r\n", "\n\r", "\r\n ", "\n\t", "\r\n \r\n", "\n \n\t"}

// stretch is a row, from one place to another.
type stretch struct{ from, to int }

// plainRows tells a text's rows, in the chapter's words.
func plainRows(s string) []stretch {
	var rows []stretch
	from := 0
	for i := range len(s) {
		if s[i] != 10 {
			continue
		}
		to := i
		if i > from && s[i-1] == 13 {
			to = i - 1
		}
		rows = append(rows, stretch{from, to})
		from = i + 1
	}
	if from < len(s) {
		rows = append(rows, stretch{from, len(s)})
	}
	return rows
}

// plainWrong tells what is wrong with a text, and where; OK and 0, if nothing is.
func plainWrong(s string) (api.Errno, int) {
	if len(s) > 6000 {
		return api.ErrLong, 6000
	}
	if s != "" && strings.Contains(" \t", s[:1]) {
		return api.ErrForm, 0
	}
	for i := range len(s) {
		if s[i] == 13 && (i+1 == len(s) || s[i+1] != 10) {
			return api.ErrForm, i
		}
	}
	return api.OK, 0
}

// plainLines tells the lines of a text with which nothing is wrong.
func plainLines(s string) []Line {
	var lines []Line
	for _, r := range plainRows(s) {
		row := s[r.from:r.to]
		if row == "" || !strings.Contains(" \t", row[:1]) {
			lines = append(lines, Line{row, []Piece{{0, r.from}}})
			continue
		}
		l := lines[len(lines)-1]
		lines[len(lines)-1] = Line{l.Text + row[1:], append(l.Pieces, Piece{len(l.Text), r.from + 1})}
	}
	return lines
}

// plainPlace is what the chapter says of Place.
func plainPlace(l Line, i int) int {
	if i < 0 {
		i = 0
	}
	if i > len(l.Text) {
		i = len(l.Text)
	}
	at := 0
	for _, p := range l.Pieces {
		if p.From <= i {
			at = p.At + (i - p.From)
		}
	}
	return at
}

// plainFold puts character by character into rows, as long as there is room.
func plainFold(text string) string {
	rows, row := "", ""
	for text != "" {
		_, size := utf8.DecodeRuneInString(text)
		if len(row)+size > 75 {
			rows += row + "\r\n"
			row = " "
		}
		row += text[:size]
		text = text[size:]
	}
	return rows + row + "\r\n"
}

// alike tells whether lines are the same.
func alike(a, b []Line) bool {
	return slices.EqualFunc(a, b, func(x, y Line) bool {
		return x.Text == y.Text && slices.Equal(x.Pieces, y.Pieces)
	})
}

// unfolds holds a text's lines against those that are handed in.
func unfolds(t *testing.T, s string, want ...Line) {
	t.Helper()
	lines, err := Unfold(s)
	if err != nil || !alike(lines, want) {
		t.Fatalf("Unfold(%q): %v, %v, not %v", s, lines, err, want)
	}
}

// refuses holds a text's fault against a number and a place.
func refuses(t *testing.T, s string, e api.Errno, at int) {
	t.Helper()
	lines, err := Unfold(s)
	if len(lines) != 0 {
		t.Fatalf("Unfold(%.80q) with an error: %v", s, lines)
	}
	var f *fault.Fault
	if f, _ = err.(*fault.Fault); f == nil || *f != (fault.Fault{At: at, Why: e}) {
		t.Fatalf("Unfold(%.80q): %v, not %d at %d", s, err, e, at)
	}
	if fault.Code(err) != e || fault.Place(err) != at || fault.Depth(err) != 1 || !fault.Is(err, e) {
		t.Fatalf("Unfold(%.80q): code %d, place %d, depth %d", s, fault.Code(err), fault.Place(err), fault.Depth(err))
	}
}

// checkUnfold holds a text's lines, or its fault, against the chapter's words.
func checkUnfold(t *testing.T, s string) {
	t.Helper()
	if e, at := plainWrong(s); e != api.OK {
		refuses(t, s, e, at)
		return
	}
	unfolds(t, s, plainLines(s)...)
}

// checkPlace holds all places of a line against the chapter's words.
func checkPlace(t *testing.T, l Line) {
	t.Helper()
	was := Line{l.Text, slices.Clone(l.Pieces)}
	for i := -2; i <= len(l.Text)+2; i++ {
		if at := Place(l, i); at != plainPlace(l, i) {
			t.Fatalf("Place(%v, %d): %d, not %d", l, i, at, plainPlace(l, i))
		}
	}
	for _, i := range oddInts {
		if at := Place(l, i); at != plainPlace(l, i) {
			t.Fatalf("Place(%v, %d): %d, not %d", l, i, at, plainPlace(l, i))
		}
	}
	if !alike([]Line{l}, []Line{was}) {
		t.Fatalf("%v is %v", was, l)
	}
}

// checkFold holds a text's rows against the chapter's words.
func checkFold(t *testing.T, text string) {
	t.Helper()
	if rows := Fold(text); rows != plainFold(text) {
		t.Fatalf("Fold(%q): %q, not %q", text, rows, plainFold(text))
	}
	checkRows(t, text)
}

// checkRows holds the rows of a text without CR and LF against what P15.4 says of them.
func checkRows(t *testing.T, text string) {
	t.Helper()
	if strings.ContainsAny(text, "\r\n") {
		return
	}
	rows := Fold(text)
	for _, r := range plainRows(rows) {
		row := rows[r.from:r.to]
		if len(row) > 75 || r.from > 0 && row[0] != ' ' {
			t.Fatalf("Fold(%q): row %q", text, row)
		}
		if utf8.ValidString(text) && !utf8.ValidString(row) {
			t.Fatalf("Fold(%q): row %q parts a character", text, row)
		}
	}
	if text != "" && strings.Contains(" \t", text[:1]) {
		refuses(t, rows, api.ErrForm, 0)
		return
	}
	lines, err := Unfold(rows)
	if err != nil || len(lines) != 1 || lines[0].Text != text {
		t.Fatalf("%q folded is unfolded as %v, %v", text, lines, err)
	}
	for i := range len(text) {
		if rows[Place(lines[0], i)] != text[i] {
			t.Fatalf("%q: byte %d is told to stand at %d", text, i, Place(lines[0], i))
		}
	}
}

// randomText is made of characters and of bytes that are in none.
func randomText(r *rand.Rand, most int) string {
	text := ""
	kinds := 1 + r.Intn(len(chars))
	for range r.Intn(most + 1) {
		text += chars[r.Intn(kinds)]
	}
	return text
}

// randomRows is made of short texts and of ends. Most are no fault.
func randomRows(r *rand.Rand) string {
	kinds := len(ends)
	if r.Intn(3) > 0 {
		kinds = 5
	}
	text := ""
	if r.Intn(4) > 0 {
		text = "x"
	}
	for range r.Intn(8) {
		if r.Intn(3) > 0 {
			text += " \tab"[r.Intn(4):][:1]
		}
		text += randomText(r, 3) + ends[r.Intn(kinds)]
	}
	return text + randomText(r, 2)
}

// randomLine has pieces that no text may have given.
func randomLine(r *rand.Rand) Line {
	l := Line{Text: randomText(r, 6)}
	for range r.Intn(5) {
		p := Piece{r.Intn(len(l.Text)+4) - 2, r.Intn(6000)}
		if r.Intn(8) == 0 {
			p.From = oddInts[r.Intn(len(oddInts))]
		}
		if r.Intn(8) == 0 {
			p.At = oddInts[r.Intn(len(oddInts))]
		}
		l.Pieces = append(l.Pieces, p)
	}
	return l
}
