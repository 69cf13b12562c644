package line

import (
	"errors"
	"math/rand"
	"regexp"
	"slices"
	"strings"
	"testing"
	"unicode/utf8"

	"errand/api"
	"errand/fault"
	"errand/param"
)

// What texts have, in the chapter's words: the longest beginning, and a name.
var (
	headForm = regexp.MustCompile(`^[A-Za-z0-9-]*`)
	nameForm = regexp.MustCompile(`\A[A-Z0-9-]{1,24}\z`)
)

// bits are what values and texts are made of at random.
var bits = []string{"a", "b c", "0", "-", "X", "=", "\t", "\\,", "\\n", "\"", "^n", "\xc3\xa9", "\xe2\x82\xac", "\xf0\x9f\x98\x80", ",", ":", ";", "::", ";X=",
	"\n", "\r", "\x00", "\x1f", "\x7f", "\xc3", "\xa9", "\xff", "\xe2\x82", "\xc2\x85"}

// names are those that lists and texts are made of at random; the last ones are none.
var names = []string{"SUMMARY", "X", "X-A", "0", "-", "DUE", "RELATED-TO", strings.Repeat("N", 24), "UID", "x", "Summary", strings.Repeat("N", 25), "", "X_A", "\xc3\x89"}

// tells is what Parse tells of a text: a line; or a number and a place, and by how much the fault is one within another one.
type tells struct {
	l     Line
	e     api.Errno
	at    int
	by    int
	inner bool
}

// of makes a line.
func of(name, value string, params ...param.Param) Line {
	return Line{Name: name, Params: params, Value: value}
}

// one makes a parameter.
func one(name string, vals ...string) param.Param {
	return param.Param{Name: name, Vals: vals}
}

// some makes so many parameters of other names, with the value v each.
func some(n int) []param.Param {
	var l []param.Param
	for i := range n {
		l = append(l, one("P"+string(rune('A'+i)), "v"))
	}
	return l
}

// fill is a value of so many bytes.
func fill(n int) string { return strings.Repeat("abcdefghi,", n/10+1)[:n] }

// plainOdd tells the place of the first byte that is in no character, or a control; -1, if there is none.
func plainOdd(s string) int {
	for i := 0; i < len(s); {
		r, size := utf8.DecodeRuneInString(s[i:])
		if r == utf8.RuneError && size == 1 || r < 32 && r != 9 || r == 127 {
			return i
		}
		i += size
	}
	return -1
}

// plainCheck is what the chapter says of Check.
func plainCheck(l Line) api.Errno {
	switch {
	case !nameForm.MatchString(l.Name):
		return api.ErrForm
	case param.CheckAll(l.Params) != api.OK:
		return param.CheckAll(l.Params)
	case len(l.Value) > 200:
		return api.ErrLong
	case plainOdd(l.Value) >= 0:
		return api.ErrText
	}
	return api.OK
}

// plainText is what the chapter says of a line that may be, printed.
func plainText(l Line) string {
	s := l.Name
	for _, p := range l.Params {
		text, _ := param.Print(p)
		s += text
	}
	return s + ":" + l.Value
}

// plainParse is what the chapter says of Parse.
func plainParse(s string) tells {
	head := headForm.FindString(s)
	if len(head) < 1 || len(head) > 24 {
		return tells{e: api.ErrForm}
	}
	params, n, err := param.Parse(s[len(head):])
	if err != nil {
		return tells{e: fault.Code(err), at: fault.Place(err), by: len(head), inner: true}
	}
	end := len(head) + n
	if end == len(s) || s[end] != ':' {
		return tells{e: api.ErrForm, at: end}
	}
	value := s[end+1:]
	if len(value) > 200 {
		return tells{e: api.ErrLong, at: end + 1}
	}
	if i := plainOdd(value); i >= 0 {
		return tells{e: api.ErrText, at: end + 1 + i}
	}
	return tells{l: of(strings.ToUpper(head), value, params...)}
}

// plainSet is what the chapter says of Set.
func plainSet(l []Line, x Line) []Line {
	var all []Line
	done := false
	for _, y := range l {
		if y.Name != x.Name {
			all = append(all, y)
		} else if !done {
			all = append(all, x)
			done = true
		}
	}
	if !done {
		all = append(all, x)
	}
	return all
}

// plainDrop is what the chapter says of Drop.
func plainDrop(l []Line, name string) []Line {
	return slices.DeleteFunc(slices.Clone(l), func(x Line) bool { return x.Name == name })
}

// equal tells whether a line is the same as another one, without the package's help.
func equal(a, b Line) bool {
	if a.Name != b.Name || a.Value != b.Value || len(a.Params) != len(b.Params) {
		return false
	}
	for i := range a.Params {
		if a.Params[i].Name != b.Params[i].Name || len(a.Params[i].Vals) != len(b.Params[i].Vals) {
			return false
		}
		for j := range a.Params[i].Vals {
			if a.Params[i].Vals[j] != b.Params[i].Vals[j] {
				return false
			}
		}
	}
	return true
}

// alike tells whether lists are the same, without the package's help.
func alike(a, b []Line) bool {
	if len(a) != len(b) {
		return false
	}
	for i := range a {
		if !equal(a[i], b[i]) {
			return false
		}
	}
	return true
}

// copyOf tells a list that shares nothing with one.
func copyOf(l []Line) []Line {
	var all []Line
	for _, x := range l {
		y := of(strings.Clone(x.Name), strings.Clone(x.Value))
		for _, p := range x.Params {
			y.Params = append(y.Params, one(strings.Clone(p.Name), slices.Clone(p.Vals)...))
		}
		all = append(all, y)
	}
	return all
}

// spoil writes over all lists of lines, and over their spare room.
func spoil(l []Line) {
	l = l[:cap(l)]
	for i := range l {
		params := l[i].Params[:cap(l[i].Params)]
		for j := range params {
			vals := params[j].Vals[:cap(params[j].Vals)]
			for k := range vals {
				vals[k] = "spoilt"
			}
			params[j] = one("SPOILT", "spoilt")
		}
		l[i] = of("SPOILT", "spoilt", one("SPOILT"))
	}
}

// isFault tells whether an error is the fault that is to be told.
func isFault(err error, want tells) bool {
	depth := 1
	f, ok := err.(*fault.Fault)
	if want.inner && ok && f != nil {
		var first *fault.Fault
		if f.At != want.by || !errors.As(err, &first) || first != f {
			return false
		}
		depth = 2
		f, ok = f.Why.(*fault.Fault)
	}
	var e api.Errno
	return ok && f != nil && *f == fault.Fault{At: want.at, Why: want.e} && fault.Code(err) == want.e && fault.Place(err) == want.by+want.at &&
		fault.Depth(err) == depth && fault.Is(err, want.e) && errors.As(err, &e) && e == want.e
}

// matches tells whether Parse tells of a text what it is to tell.
func matches(s string, want tells) bool {
	l, err := Parse(s)
	if want.e == api.OK {
		return equal(l, want.l) && err == nil
	}
	return equal(l, Line{}) && isFault(err, want)
}

// parses holds what a text tells against a line.
func parses(t *testing.T, s string, want Line) {
	t.Helper()
	if !matches(s, tells{l: want}) {
		l, err := Parse(s)
		t.Errorf("Parse(%.200q): %q, %v, not %q", s, l, err, want)
	}
	checkParse(t, s)
}

// refuses holds a text's fault against a number and a place.
func refuses(t *testing.T, s string, e api.Errno, at int) {
	t.Helper()
	if !matches(s, tells{e: e, at: at}) {
		l, err := Parse(s)
		t.Errorf("Parse(%.200q): %q, %v, not %d at %d", s, l, err, e, at)
	}
	checkParse(t, s)
}

// refusesParams holds the fault of a text's parameters against a number, and a place that is counted from the name's end.
func refusesParams(t *testing.T, name, rest string, e api.Errno, at int) {
	t.Helper()
	s := name + rest
	if !matches(s, tells{e: e, at: at, by: len(name), inner: true}) {
		l, err := Parse(s)
		t.Errorf("Parse(%.200q): %q, %v, not %d at %d within %d", s, l, err, e, at, len(name))
	}
	checkParse(t, s)
}

// checkParse holds what a text tells against the chapter's words, and against itself, printed and parsed again.
func checkParse(t *testing.T, s string) {
	t.Helper()
	given := strings.Clone(s)
	if want := plainParse(s); !matches(given, want) {
		l, err := Parse(given)
		t.Fatalf("Parse(%.200q): %q, %v, not %v", s, l, err, want)
	}
	if given != s {
		t.Fatalf("%.200q is %q", s, given)
	}
	if l, err := Parse(s); err == nil {
		checkPrint(t, l)
		if e := Check(l); e != api.OK {
			t.Fatalf("%.200q is parsed as %q, of which Check tells %d", s, l, e)
		}
	}
}

// checkPrint holds what is told of a line, and its text, against the chapter's words, and against itself, parsed again.
func checkPrint(t *testing.T, l Line) {
	t.Helper()
	was := copyOf([]Line{l})
	text, e := Print(l)
	want := plainCheck(l)
	if got := Check(l); got != want || e != want {
		t.Fatalf("Check(%.200q): %d, and Print: %d, not %d", l, got, e, want)
	}
	if want == api.OK && text != plainText(l) || want != api.OK && text != "" {
		t.Fatalf("Print(%.200q): %q, %d", l, text, e)
	}
	if !equal(l, was[0]) {
		t.Fatalf("%.200q is %q", was[0], l)
	}
	if want == api.OK && !matches(text, tells{l: l}) {
		again, err := Parse(text)
		t.Fatalf("%.200q is printed as %q, and parsed as %q, %v", l, text, again, err)
	}
}

// checkLists holds what is told of a list against the chapter's words, and the list against itself.
func checkLists(t *testing.T, l []Line, x Line) {
	t.Helper()
	room := append(copyOf(l), of("ROOM", "room", one("ROOM", "room")))
	given := room[:len(l)]
	was, xWas := copyOf(room), copyOf([]Line{x})[0]
	n := len(l) - len(plainDrop(l, x.Name))
	first, found := Line{}, n > 0
	if i := slices.IndexFunc(l, func(y Line) bool { return y.Name == x.Name }); found {
		first = l[i]
	}
	if got := Count(given, x.Name); got != n {
		t.Fatalf("Count(%q, %q): %d, not %d", l, x.Name, got, n)
	}
	one, ok := Get(given, x.Name)
	if !equal(one, first) || ok != found {
		t.Fatalf("Get(%q, %q): %q, %t, not %q, %t", l, x.Name, one, ok, first, found)
	}
	set, dropped := Set(given, x), Drop(given, x.Name)
	if want := plainSet(l, x); !alike(set, want) {
		t.Fatalf("Set(%q, %q): %q, not %q", l, x, set, want)
	}
	if want := plainDrop(l, x.Name); !alike(dropped, want) {
		t.Fatalf("Drop(%q, %q): %q, not %q", l, x.Name, dropped, want)
	}
	spoil([]Line{one})
	spoil(set)
	spoil(dropped)
	if !alike(room, was) || !equal(x, xWas) {
		t.Fatalf("%q and %q are %q and %q", was, xWas, room, x)
	}
}

// randomValue is made of short pieces. Most values may be.
func randomValue(r *rand.Rand) string {
	kinds := 19
	if r.Intn(8) == 0 {
		kinds = len(bits)
	}
	most := 8
	if r.Intn(8) == 0 {
		most = 220
	}
	var b strings.Builder
	for range r.Intn(most) {
		b.WriteString(bits[r.Intn(kinds)])
	}
	return b.String()
}

// randomParams makes parameters. Most of them may be.
func randomParams(r *rand.Rand) []param.Param {
	var l []param.Param
	if r.Intn(20) == 0 {
		return some(r.Intn(9))
	}
	for range r.Intn(4) {
		p := one(names[r.Intn(9)])
		if r.Intn(30) == 0 {
			p.Name = names[r.Intn(len(names))]
		}
		if slices.ContainsFunc(l, func(q param.Param) bool { return q.Name == p.Name }) && r.Intn(10) > 0 {
			continue
		}
		for range 1 + r.Intn(3) {
			v := randomValue(r)
			if len(v) > 60 && r.Intn(8) > 0 {
				v = v[:r.Intn(20)]
			}
			p.Vals = append(p.Vals, v)
		}
		l = append(l, p)
	}
	return l
}

// randomLine makes a line. Most of them may be.
func randomLine(r *rand.Rand) Line {
	name := names[r.Intn(9)]
	if r.Intn(12) == 0 {
		name = names[r.Intn(len(names))]
	}
	return of(name, randomValue(r), randomParams(r)...)
}

// randomLines makes a list of lines, of few names.
func randomLines(r *rand.Rand) []Line {
	var l []Line
	for range r.Intn(8) {
		x := randomLine(r)
		x.Name = names[r.Intn(4)]
		l = append(l, x)
	}
	return l
}

// randomText is the text of a line, with small letters, or with bytes of other kinds; or is made of pieces as they come.
func randomText(r *rand.Rand) string {
	if r.Intn(6) == 0 {
		return names[r.Intn(len(names))] + randomValue(r) + randomValue(r)
	}
	x := randomLine(r)
	s := []byte(plainText(x))
	if r.Intn(3) == 0 {
		s = append([]byte(strings.ToLower(x.Name)), s[len(x.Name):]...)
	}
	if r.Intn(20) == 0 {
		s = slices.Insert(s, len(x.Name), []byte(";LONG=b,"+strings.Repeat("a", 58+r.Intn(6)))...)
	}
	if r.Intn(2) == 0 && len(s) > 0 {
		s[r.Intn(len(s))] = ";=,:\"^n'\nXx \xc3\xa9\x00\xff"[r.Intn(16)]
	}
	if r.Intn(20) == 0 {
		s = s[:r.Intn(len(s)+1)]
	}
	return string(s)
}
