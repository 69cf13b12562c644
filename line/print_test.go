package line

import (
	"strings"
	"testing"

	"errand/api"
	"errand/param"
)

// prints holds a line's text against the one that is handed in, and that one, parsed, against the line.
func prints(t *testing.T, want, name, value string, params ...param.Param) {
	t.Helper()
	l := of(name, value, params...)
	if s, e := Print(l); s != want || e != api.OK {
		t.Errorf("Print(%q): %q, %d, not %q", l, s, e, want)
	}
	parses(t, want, l)
}

// P18.2, P18.7
func TestPrint(t *testing.T) {
	prints(t, "SUMMARY;LANGUAGE=en:Milk", "SUMMARY", "Milk", one("LANGUAGE", "en"))
	prints(t, "SUMMARY:Milk", "SUMMARY", "Milk")
	prints(t, "SUMMARY:", "SUMMARY", "")
	prints(t, "X;Y=:", "X", "", one("Y", ""))
	prints(t, "X;Y=,:", "X", "", one("Y", "", ""))
	prints(t, "X;X=X:X", "X", "X", one("X", "X"))
	prints(t, "-;0=9:8", "-", "8", one("0", "9"))
	prints(t, "BEGIN:VTODO", "BEGIN", "VTODO")
	prints(t, strings.Repeat("X", 24)+":"+fill(200), strings.Repeat("X", 24), fill(200))
}

// P18.2, P18.7
func TestPrintParams(t *testing.T) {
	prints(t, "X;PA=v;PB=v;PC=v;PD=v;PE=v;PF=v:v", "X", "v", some(6)...)
	prints(t, `X;Y=a,"b;c":v`, "X", "v", one("Y", "a", "b;c"))
	prints(t, `X;Y=",",":":v`, "X", "v", one("Y", ",", ":"))
	prints(t, `X;Y="a:b";Z=^n^'^^:v`, "X", "v", one("Y", "a:b"), one("Z", "\n\"^"))
	prints(t, `X;Z=a;Y=b:v`, "X", "v", one("Z", "a"), one("Y", "b"))
	prints(t, `X;Y=a b\,=:v`, "X", "v", one("Y", "a b\\", "="))
	all := some(6)
	for i := range all {
		all[i].Vals = strings.Split(strings.Repeat(strings.Repeat("^", 60)+" ", 5)+strings.Repeat(",", 60), " ")
	}
	s, _ := param.PrintAll(all)
	prints(t, "X"+s+":"+fill(200), "X", fill(200), all...)
}

// P18.2, P18.7: the value stands as it is.
func TestPrintValues(t *testing.T) {
	for _, v := range []string{":", "::", ";", ";X=a", ";X=a:b", ",", "\"", "\"a\"", "^", "^n", "^^", " ", " a ", "\t", "\\n", "\\,\\;", "a:b;c,d", "\xc3\xa9", "\xf0\x9f\x98\x80:", "=", "x", "X:v"} {
		prints(t, "X:"+v, "X", v)
		prints(t, "X;Y=a:"+v, "X", v, one("Y", "a"))
		prints(t, `X;Y=":":`+v, "X", v, one("Y", ":"))
	}
}

// P18.2: the error is Check's, and there is no text then.
func TestPrintFaults(t *testing.T) {
	for _, c := range []struct {
		l Line
		e api.Errno
	}{{Line{}, api.ErrForm}, {of("x", "v"), api.ErrForm}, {of("X", fill(201)), api.ErrLong}, {of("X", "a\n"), api.ErrText}, {of("X", "\xc3"), api.ErrText}, {of("X", "\x7f", one("Y", "a")), api.ErrText},
		{of(strings.Repeat("X", 25), "v", some(6)...), api.ErrForm}} {
		if s, e := Print(c.l); s != "" || e != c.e {
			t.Errorf("Print(%q): %q, %d, not %d", c.l, s, e, c.e)
		}
	}
	for _, c := range wrongParams() {
		if s, e := Print(of("X", "v", c.l...)); s != "" || e != c.e {
			t.Errorf("Print with %q: %q, %d, not %d", c.l, s, e, c.e)
		}
	}
}

// P18.1, P18.2, rule 3: the lists that are handed in, and their spare room, stay.
func TestPrintLeavesTheLists(t *testing.T) {
	vals := []string{"a,", "b\n", "c^", "d\""}
	room := []param.Param{{Name: "X", Vals: vals[:2]}, {Name: "Y", Vals: vals[1:3]}, {Name: "Z", Vals: vals[:1]}}
	l := of("X", "v", room[:2]...)
	if s, e := Print(l); s != `X;X="a,",b^n;Y=b^n,c^^:v` || e != api.OK {
		t.Errorf("%q, %d", s, e)
	}
	Check(l)
	want := []Line{of("X", "v", one("X", "a,", "b\n"), one("Y", "b\n", "c^"), one("Z", "a,"))}
	if !alike([]Line{of("X", "v", room...)}, want) || strings.Join(vals, " ") != "a, b\n c^ d\"" {
		t.Errorf("%q, %q", room, vals)
	}
}
