package escape

import (
	"math/rand"
	"slices"
	"strings"
	"testing"

	"errand/api"
	"errand/fault"
)

// letters are all that matters to a value, and what does not.
const letters = "\\;,nN\na"

// bits are what texts and values are made of at random: signs, pairs, and bytes that stand for themselves, be they in a character or not.
var bits = []string{"\\", ";", ",", "n", "N", "\n", "\\\\", "\\;", "\\,", "\\n", "\\N", "\r", "\"", ":", "^", "a", "b c", "\x00", "\t", "\x7f", "\xc3\xa9",
	"\xe2\x82\xac", "\xf0\x9f\x98\x80", "\x80", "\xff", "\xc3", "\xdc", "\xac", "\xbb", "\x8a", "\xe2\x82", "\xf0\x9f"}

// allBytes is a text that has each byte.
func allBytes() string {
	l := make([]byte, 256)
	for i := range l {
		l[i] = byte(i)
	}
	return string(l)
}

// plainEscape is what the chapter says of an escaped text.
func plainEscape(s string) string {
	s = strings.ReplaceAll(s, "\\", "\\\\")
	s = strings.ReplaceAll(s, ";", "\\;")
	s = strings.ReplaceAll(s, ",", "\\,")
	return strings.ReplaceAll(s, "\n", "\\n")
}

// owned tells whether a byte has a backslash of its own: those ahead of it, one behind the other, go in pairs, but for the last one.
func owned(s string, at int) bool {
	run := 0
	for run < at && s[at-1-run] == '\\' {
		run++
	}
	return run%2 == 1
}

// isFault tells whether a place of a value is one of the chapter's faults; a comma with no backslash of its own is none in a list.
func isFault(s string, at int, list bool) bool {
	switch {
	case owned(s, at):
		return false
	case s[at] == ',':
		return !list
	case s[at] == '\\':
		return at+1 == len(s) || !strings.Contains("\\;,nN", s[at+1:at+2])
	}
	return s[at] == ';'
}

// plainWrong tells the place of a value's first fault; -1, if there is none.
func plainWrong(s string, list bool) int {
	for at := range len(s) {
		if isFault(s, at, list) {
			return at
		}
	}
	return -1
}

// plainUnescape tells the text of a value that has no fault.
func plainUnescape(s string) string {
	var l []byte
	for at := range len(s) {
		switch {
		case owned(s, at) && (s[at] == 'n' || s[at] == 'N'):
			l = append(l, 10)
		case owned(s, at) || s[at] != '\\':
			l = append(l, s[at])
		}
	}
	return string(l)
}

// plainSplit tells the texts of a list that has no fault.
func plainSplit(s string) []string {
	var l []string
	from := 0
	for at := range len(s) {
		if s[at] == ',' && !owned(s, at) {
			l = append(l, plainUnescape(s[from:at]))
			from = at + 1
		}
	}
	return append(l, plainUnescape(s[from:]))
}

// isForm tells whether an error is a fault of fault.New: ErrForm at a place.
func isForm(err error, at int) bool {
	f, ok := err.(*fault.Fault)
	return ok && f != nil && *f == fault.Fault{At: at, Why: api.ErrForm} &&
		fault.Code(err) == api.ErrForm && fault.Place(err) == at && fault.Is(err, api.ErrForm)
}

// escapes holds a text's value against the one that is handed in.
func escapes(t *testing.T, s, value string) {
	t.Helper()
	if got := Escape(s); got != value {
		t.Errorf("Escape(%q): %q, not %q", s, got, value)
	}
	tells(t, value, s)
	checkEscape(t, s)
}

// tells holds a value's text against the one that is handed in.
func tells(t *testing.T, value, s string) {
	t.Helper()
	if got, err := Unescape(value); got != s || err != nil {
		t.Errorf("Unescape(%q): %q, %v, not %q", value, got, err, s)
	}
	checkValue(t, value)
}

// refuses holds a value's fault against a place.
func refuses(t *testing.T, value string, at int) {
	t.Helper()
	if got, err := Unescape(value); got != "" || !isForm(err, at) {
		t.Errorf("Unescape(%q): %q, %v, not ErrForm at %d", value, got, err, at)
	}
	checkValue(t, value)
}

// joins holds the value of texts against the one that is handed in.
func joins(t *testing.T, value string, l ...string) {
	t.Helper()
	if got := Join(l); got != value {
		t.Errorf("Join(%q): %q, not %q", l, got, value)
	}
	checkList(t, l)
}

// splits holds a value's texts against those that are handed in.
func splits(t *testing.T, value string, l ...string) {
	t.Helper()
	if got, err := Split(value); !slices.Equal(got, l) || err != nil {
		t.Errorf("Split(%q): %q, %v, not %q", value, got, err, l)
	}
	checkValue(t, value)
}

// parted holds the fault of a value's texts against a place.
func parted(t *testing.T, value string, at int) {
	t.Helper()
	if got, err := Split(value); len(got) != 0 || !isForm(err, at) {
		t.Errorf("Split(%q): %q, %v, not ErrForm at %d", value, got, err, at)
	}
	checkValue(t, value)
}

// checkEscape holds a text's value against the chapter's words.
func checkEscape(t *testing.T, s string) {
	t.Helper()
	value := Escape(s)
	if value != plainEscape(s) {
		t.Fatalf("Escape(%q): %q, not %q", s, value, plainEscape(s))
	}
	if got, err := Unescape(value); got != s || err != nil {
		t.Fatalf("%q is escaped as %q, and unescaped as %q, %v", s, value, got, err)
	}
}

// checkList holds the value of texts against the chapter's words.
func checkList(t *testing.T, l []string) {
	t.Helper()
	var values []string
	for _, s := range l {
		values = append(values, plainEscape(s))
	}
	given := slices.Clone(l)
	value := Join(given)
	if value != strings.Join(values, ",") {
		t.Fatalf("Join(%q): %q, not %q", l, value, strings.Join(values, ","))
	}
	if !slices.Equal(given, l) {
		t.Fatalf("%q is %q", l, given)
	}
	if got, err := Split(value); len(l) > 0 && (!slices.Equal(got, l) || err != nil) {
		t.Fatalf("%q is joined as %q, and split as %q, %v", l, value, got, err)
	}
}

// checkValue holds what a value tells, as a text and as texts, against the chapter's words.
func checkValue(t *testing.T, value string) {
	t.Helper()
	text, err := Unescape(value)
	if at := plainWrong(value, false); at >= 0 {
		if text != "" || !isForm(err, at) {
			t.Fatalf("Unescape(%q): %q, %v, not ErrForm at %d", value, text, err, at)
		}
	} else if text != plainUnescape(value) || err != nil {
		t.Fatalf("Unescape(%q): %q, %v, not %q", value, text, err, plainUnescape(value))
	}
	texts, err := Split(value)
	if at := plainWrong(value, true); at >= 0 {
		if len(texts) != 0 || !isForm(err, at) {
			t.Fatalf("Split(%q): %q, %v, not ErrForm at %d", value, texts, err, at)
		}
	} else if !slices.Equal(texts, plainSplit(value)) || err != nil {
		t.Fatalf("Split(%q): %q, %v, not %q", value, texts, err, plainSplit(value))
	}
	checkAgain(t, value)
}

// checkAgain holds a value without LF that is unescaped, and escaped again, against itself.
func checkAgain(t *testing.T, value string) {
	t.Helper()
	if strings.Contains(value, "\n") {
		return
	}
	small := []byte(value)
	for at := range small {
		if small[at] == 'N' && owned(value, at) {
			small[at] = 'n'
		}
	}
	if text, err := Unescape(value); err == nil && Escape(text) != string(small) {
		t.Fatalf("%q is unescaped, and escaped again, as %q", value, Escape(text))
	}
	if texts, err := Split(value); err == nil && Join(texts) != string(small) {
		t.Fatalf("%q is split, and joined again, as %q", value, Join(texts))
	}
}

// randomText is made of short pieces. Half of the texts have no sign but in a pair, so that many of them are values without a fault.
func randomText(r *rand.Rand, most int) string {
	var b strings.Builder
	first, kinds := 0, len(bits)
	if r.Intn(2) > 0 {
		first, kinds = 6, len(bits)-6
	}
	for range r.Intn(most + 1) {
		if r.Intn(8) == 0 {
			b.WriteByte(byte(r.Intn(256)))
			continue
		}
		b.WriteString(bits[first+r.Intn(kinds)])
	}
	return b.String()
}

// randomList has texts that may be empty.
func randomList(r *rand.Rand) []string {
	var l []string
	for range r.Intn(6) {
		l = append(l, randomText(r, r.Intn(6)))
	}
	return l
}
