package param

import (
	"math/rand"
	"regexp"
	"slices"
	"strings"
	"testing"
	"unicode/utf8"

	"errand/api"
	"errand/fault"
)

// What texts have, in the chapter's words: a semicolon and the longest run behind it, and a value of either kind.
var (
	headForm   = regexp.MustCompile(`^;[A-Za-z0-9-]*`)
	quotedForm = regexp.MustCompile(`^"[^"]*"`)
	bareForm   = regexp.MustCompile(`^[^,:;]*`)
	nameForm   = regexp.MustCompile(`\A[A-Z0-9-]{1,24}\z`)
)

// How values are written, and read, sign by sign; and what makes of any value one that may stand in a text.
var (
	written = strings.NewReplacer("^", "^^", "\n", "^n", "\"", "^'")
	signs   = strings.NewReplacer("^^", "^", "^n", "\n", "^'", "\"")
	cleaner = strings.NewReplacer("\n", "^n", "\"", "^'", ",", "^", ":", "=", ";", "+")
)

// bits are what values and texts are made of at random.
var bits = []string{"a", "b c", "n", "'", "-", "0", "=", "\t", "\xc3\xa9", "\xe2\x82\xac", "\xf0\x9f\x98\x80", "^", "^^", "^n", "^'", "^^n", ",", ":", ";", "\"",
	"\n", "\r", "\x00", "\x1f", "\x7f", "\\", "\xc3", "\xa9", "\xff", "\xe2\x82", "\xc2\x85"}

// names are those that lists and texts are made of at random; the last ones are none.
var names = []string{"X", "LANGUAGE", "RELTYPE", "X-A", "0", "-", strings.Repeat("N", 24), "GAP", "ALTREP", "x", "Language", strings.Repeat("N", 25), "", "X_A", "\xc3\x89"}

// tells is what Parse tells of a text: parameters and how many bytes they take, or a number and a place.
type tells struct {
	l  []Param
	n  int
	e  api.Errno
	at int
}

// some makes so many parameters of other names, with the value v each.
func some(n int) []Param {
	var l []Param
	for i := range n {
		l = append(l, one("P"+string(rune('A'+i)), "v"))
	}
	return l
}

// one makes a parameter.
func one(name string, vals ...string) Param {
	return Param{Name: name, Vals: vals}
}

// times is a list that has a value so often.
func times(v string, n int) []string {
	return slices.Repeat([]string{v}, n)
}

// plainOdd tells the place of the first byte that is in no character, or a control; -1, if there is none.
func plainOdd(s string) int {
	for i := 0; i < len(s); {
		r, size := utf8.DecodeRuneInString(s[i:])
		if r == utf8.RuneError && size == 1 || r < 32 && r != 9 || r == 127 {
			return i
		}
		i += size
	}
	return -1
}

// plainCheck is what the chapter says of Check.
func plainCheck(p Param) api.Errno {
	if !nameForm.MatchString(p.Name) {
		return api.ErrForm
	}
	if len(p.Vals) < 1 || len(p.Vals) > 6 {
		return api.ErrMany
	}
	for _, v := range p.Vals {
		if len(v) > 60 {
			return api.ErrLong
		}
		for _, row := range strings.Split(v, "\n") {
			if plainOdd(row) >= 0 {
				return api.ErrText
			}
		}
	}
	return api.OK
}

// plainCheckAll is what the chapter says of CheckAll.
func plainCheckAll(l []Param) api.Errno {
	if len(l) > 6 {
		return api.ErrMany
	}
	for _, p := range l {
		if e := plainCheck(p); e != api.OK {
			return e
		}
	}
	seen := map[string]int{}
	for _, p := range l {
		seen[p.Name]++
	}
	if len(seen) < len(l) {
		return api.ErrTwice
	}
	return api.OK
}

// plainWrite is what the chapter says of a written value.
func plainWrite(v string) string {
	s := written.Replace(v)
	if strings.Contains(v, ",") || strings.Contains(v, ":") || strings.Contains(v, ";") {
		s = "\"" + s + "\""
	}
	return s
}

// plainText is what the chapter says of parameters that may be, printed.
func plainText(l []Param) string {
	s := ""
	for _, p := range l {
		s += ";" + p.Name
		sign := "="
		for _, v := range p.Vals {
			s += sign + plainWrite(v)
			sign = ","
		}
	}
	return s
}

// plainParse is what the chapter says of Parse.
func plainParse(s string) tells {
	var a tells
	for strings.HasPrefix(s[a.n:], ";") {
		head := headForm.FindString(s[a.n:])
		name := strings.ToUpper(head[1:])
		end := a.n + len(head)
		switch {
		case len(a.l) == 6:
			return tells{e: api.ErrMany, at: a.n}
		case !nameForm.MatchString(name):
			return tells{e: api.ErrForm, at: a.n + 1}
		case slices.ContainsFunc(a.l, func(p Param) bool { return p.Name == name }):
			return tells{e: api.ErrTwice, at: a.n + 1}
		case end == len(s) || s[end] != '=':
			return tells{e: api.ErrForm, at: end}
		}
		p := Param{Name: name}
		for {
			v, to, bad := plainValue(s, end+1, len(p.Vals))
			if bad.e != api.OK {
				return bad
			}
			p.Vals = append(p.Vals, v)
			end = to
			if end == len(s) || s[end] != ',' {
				break
			}
		}
		a.l = append(a.l, p)
		a.n = end
	}
	return a
}

// plainValue is what the chapter says of a value at a place, behind others.
func plainValue(s string, at, ahead int) (string, int, tells) {
	if ahead == 6 {
		return "", 0, tells{e: api.ErrMany, at: at}
	}
	whole := bareForm.FindString(s[at:])
	data, from := whole, at
	quoted := at < len(s) && s[at] == '"'
	if quoted {
		whole = quotedForm.FindString(s[at:])
		if whole == "" {
			return "", 0, tells{e: api.ErrCut, at: len(s)}
		}
		data, from = whole[1:len(whole)-1], at+1
	} else if i := strings.Index(data, "\""); i >= 0 {
		return "", 0, tells{e: api.ErrForm, at: at + i}
	}
	if i := plainOdd(data); i >= 0 {
		return "", 0, tells{e: api.ErrText, at: from + i}
	}
	v := signs.Replace(data)
	if len(v) > 60 {
		return "", 0, tells{e: api.ErrLong, at: at}
	}
	end := at + len(whole)
	if end < len(s) && s[end] != ',' && s[end] != ':' && s[end] != ';' {
		return "", 0, tells{e: api.ErrForm, at: end}
	}
	return v, end, tells{}
}

// alike tells whether lists are the same, without the package's help.
func alike(a, b []Param) bool {
	if len(a) != len(b) {
		return false
	}
	for i := range a {
		if a[i].Name != b[i].Name || len(a[i].Vals) != len(b[i].Vals) {
			return false
		}
		for j := range a[i].Vals {
			if a[i].Vals[j] != b[i].Vals[j] {
				return false
			}
		}
	}
	return true
}

// clone tells a list that shares nothing with one.
func clone(l []Param) []Param {
	var all []Param
	for _, p := range l {
		all = append(all, one(strings.Clone(p.Name), slices.Clone(p.Vals)...))
	}
	return all
}

// matches tells whether Parse tells of a text what it is to tell.
func matches(s string, want tells) bool {
	l, n, err := Parse(s)
	if want.e == api.OK {
		return alike(l, want.l) && n == want.n && err == nil
	}
	f, ok := err.(*fault.Fault)
	return len(l) == 0 && n == 0 && ok && f != nil && *f == fault.Fault{At: want.at, Why: want.e} &&
		fault.Code(err) == want.e && fault.Place(err) == want.at && fault.Depth(err) == 1 && fault.Is(err, want.e)
}

// parses holds what a text tells against parameters and how many bytes they take.
func parses(t *testing.T, s string, n int, want ...Param) {
	t.Helper()
	if !matches(s, tells{l: want, n: n}) {
		l, got, err := Parse(s)
		t.Errorf("Parse(%.200q): %q, %d, %v, not %q, %d", s, l, got, err, want, n)
	}
	checkParse(t, s)
}

// refuses holds a text's fault against a number and a place.
func refuses(t *testing.T, s string, e api.Errno, at int) {
	t.Helper()
	if !matches(s, tells{e: e, at: at}) {
		l, n, err := Parse(s)
		t.Errorf("Parse(%.200q): %q, %d, %v, not %d at %d", s, l, n, err, e, at)
	}
	checkParse(t, s)
}

// checkParse holds what a text tells against the chapter's words, and against itself, printed and parsed again.
func checkParse(t *testing.T, s string) {
	t.Helper()
	given := strings.Clone(s)
	if want := plainParse(s); !matches(given, want) {
		l, n, err := Parse(given)
		t.Fatalf("Parse(%.200q): %q, %d, %v, not %v", s, l, n, err, want)
	}
	if given != s {
		t.Fatalf("%.200q is %q", s, given)
	}
	if l, _, err := Parse(s); err == nil {
		checkPrint(t, l)
		if e := CheckAll(l); e != api.OK {
			t.Fatalf("%.200q is parsed as %q, of which CheckAll tells %d", s, l, e)
		}
	}
}

// checkPrint holds what is told of parameters, and their text, against the chapter's words.
func checkPrint(t *testing.T, l []Param) {
	t.Helper()
	was := clone(l)
	for _, p := range l {
		text, e := Print(p)
		want := plainCheck(p)
		if got := Check(p); got != want || e != want {
			t.Fatalf("Check(%.200q): %d, and Print: %d, not %d", p, got, e, want)
		}
		if want == api.OK && text != plainText([]Param{p}) || want != api.OK && text != "" {
			t.Fatalf("Print(%.200q): %q, %d", p, text, e)
		}
	}
	text, e := PrintAll(l)
	want := plainCheckAll(l)
	if got := CheckAll(l); got != want || e != want {
		t.Fatalf("CheckAll(%.200q): %d, and PrintAll: %d, not %d", l, got, e, want)
	}
	if want == api.OK && text != plainText(l) || want != api.OK && text != "" {
		t.Fatalf("PrintAll(%.200q): %q, %d", l, text, e)
	}
	if !alike(l, was) {
		t.Fatalf("%.200q is %q", was, l)
	}
	if want == api.OK {
		checkAgain(t, l, text)
	}
}

// checkAgain holds parameters that are printed, and parsed again, against themselves, whatever stands behind them.
func checkAgain(t *testing.T, l []Param, text string) {
	t.Helper()
	for _, rest := range []string{"", ":", ":v", ":;X=\"", "::;"} {
		if !matches(text+rest, tells{l: l, n: len(text)}) {
			again, n, err := Parse(text + rest)
			t.Fatalf("%.200q is printed as %q, and parsed with %q behind as %q, %d, %v", l, text, rest, again, n, err)
		}
	}
}

// randomValue is made of short pieces. Most values may be.
func randomValue(r *rand.Rand) string {
	kinds := 20
	if r.Intn(10) == 0 {
		kinds = len(bits)
	}
	most := 8
	if r.Intn(20) == 0 {
		most = 40
	}
	var b strings.Builder
	for range r.Intn(most) {
		b.WriteString(bits[r.Intn(kinds)])
	}
	if r.Intn(4) == 0 {
		b.WriteString("\n")
	}
	return b.String()
}

// randomList makes parameters. Most of them may be.
func randomList(r *rand.Rand) []Param {
	var l []Param
	for range r.Intn(8) {
		p := Param{Name: names[r.Intn(9)]}
		if r.Intn(20) == 0 {
			p.Name = names[r.Intn(len(names))]
		}
		if slices.ContainsFunc(l, func(q Param) bool { return q.Name == p.Name }) && r.Intn(10) > 0 {
			continue
		}
		most := 6
		if r.Intn(10) == 0 {
			most = 8
		}
		for range 1 + r.Intn(most) {
			p.Vals = append(p.Vals, randomValue(r))
		}
		if r.Intn(30) == 0 {
			p.Vals = nil
		}
		l = append(l, p)
	}
	return l
}

// randomText is made of heads and values, quoted or not, as they come. Some texts are of parameters that are printed, with a byte of another kind.
func randomText(r *rand.Rand) string {
	if l := []byte(plainText(randomList(r))); r.Intn(2) == 0 && len(l) > 0 {
		if i := r.Intn(len(l)); r.Intn(3) > 0 {
			l[i] = ";=,:\"^n'\nXx \xc3\xa9"[r.Intn(14)]
		}
		return string(l)
	}
	var b strings.Builder
	for range r.Intn(8) {
		b.WriteString(";" + names[r.Intn(len(names)-3)])
		sign := "="
		for range 1 + r.Intn(7) {
			b.WriteString(sign + randomWritten(r))
			sign = ","
		}
	}
	return b.String()
}

// randomWritten is a value as it stands in a text, or nearly so.
func randomWritten(r *rand.Rand) string {
	v := randomValue(r)
	clean := cleaner.Replace(v)
	switch r.Intn(16) {
	case 0:
		return v
	case 1:
		return "\"" + v + "\""
	case 2:
		return "\"" + clean
	case 3:
		return clean + strings.Repeat("^^", 50+r.Intn(20))
	case 4, 5, 6:
		return "\"" + strings.ReplaceAll(clean, "=", ":") + ",\""
	}
	return clean
}
