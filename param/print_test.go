package param

import (
	"slices"
	"strings"
	"testing"

	"errand/api"
)

// prints holds a parameter's text against the one that is handed in.
func prints(t *testing.T, want, name string, vals ...string) {
	t.Helper()
	p := one(name, vals...)
	if s, e := Print(p); s != want || e != api.OK {
		t.Errorf("Print(%q): %q, %d, not %q", p, s, e, want)
	}
	parses(t, want, len(want), p)
}

// printsAll holds the text of parameters against the one that is handed in.
func printsAll(t *testing.T, want string, l ...Param) {
	t.Helper()
	if s, e := PrintAll(l); s != want || e != api.OK {
		t.Errorf("PrintAll(%q): %q, %d, not %q", l, s, e, want)
	}
	parses(t, want, len(want), l...)
}

// P17.2
func TestPrint(t *testing.T) {
	prints(t, `;X=a`, "X", "a")
	prints(t, `;LANGUAGE=en`, "LANGUAGE", "en")
	prints(t, `;X=a,b,c`, "X", "a", "b", "c")
	prints(t, `;X=b,a,a`, "X", "b", "a", "a")
	prints(t, `;X=a,"b;c"`, "X", "a", "b;c")
	prints(t, ";X= a\tb ,=\\,'", "X", " a\tb ", "=\\", "'")
	prints(t, ";X-9=\xc3\xa9,\xe2\x82\xac", "X-9", "\xc3\xa9", "\xe2\x82\xac")
	prints(t, ";"+strings.Repeat("X", 24)+"="+strings.Repeat("a", 60), strings.Repeat("X", 24), strings.Repeat("a", 60))
}

// P17.2
func TestPrintValuesWithoutBytes(t *testing.T) {
	prints(t, `;X=`, "X", "")
	prints(t, `;X=,`, "X", "", "")
	prints(t, `;X=,a`, "X", "", "a")
	prints(t, `;X=a,`, "X", "a", "")
	prints(t, `;X=a,,b`, "X", "a", "", "b")
	prints(t, `;X=,,,,,`, "X", times("", 6)...)
}

// P17.2: the signs that a caret stands ahead of.
func TestPrintCarets(t *testing.T) {
	prints(t, `;X=^^`, "X", "^")
	prints(t, `;X=^n`, "X", "\n")
	prints(t, `;X=^'`, "X", "\"")
	prints(t, `;X=^^^n^'`, "X", "^\n\"")
	prints(t, `;X=^'^n^^`, "X", "\"\n^")
	prints(t, `;X=^^n`, "X", "^n")
	prints(t, `;X=^^'`, "X", "^'")
	prints(t, `;X=^^^^`, "X", "^^")
	prints(t, `;X=^^^^n`, "X", "^^n")
	prints(t, `;X=^^^'`, "X", "^\"")
	prints(t, `;X=a^^b^nc^'d`, "X", "a^b\nc\"d")
	prints(t, `;X=^'a^'`, "X", "\"a\"")
	prints(t, `;X=a^nb,^^,c^'`, "X", "a\nb", "^", "c\"")
}

// P17.2: the bytes for which a value is quoted, and those for which it is not.
func TestPrintQuoted(t *testing.T) {
	for _, b := range []string{",", ":", ";"} {
		prints(t, `;X="`+b+`"`, "X", b)
		prints(t, `;X="a`+b+`"`, "X", "a"+b)
		prints(t, `;X="`+b+`a"`, "X", b+"a")
		prints(t, `;X="a`+b+`b`+b+b+`"`, "X", "a"+b+"b"+b+b)
		prints(t, `;X="^'`+b+`^'"`, "X", "\""+b+"\"")
		prints(t, `;X="^^`+b+`"`, "X", "^"+b)
		prints(t, `;X="`+b+`^n"`, "X", b+"\n")
		prints(t, `;X=a,"`+b+`",^n,"`+b+`"`, "X", "a", b, "\n", b)
	}
	prints(t, `;X=",:;"`, "X", ",:;")
	prints(t, `;X="a^^,^n:^';"`, "X", "a^,\n:\";")
	for i := range 128 {
		b := string([]byte{byte(i)})
		if i < 32 && i != 9 || i == 127 || strings.Contains(",:;^\"", b) {
			continue
		}
		prints(t, ";X=a"+b, "X", "a"+b)
		prints(t, ";X="+b+","+b+b, "X", b, b+b)
	}
}

// P17.2
func TestPrintAll(t *testing.T) {
	printsAll(t, "")
	printsAll(t, "", []Param{}...)
	printsAll(t, `;X=a`, one("X", "a"))
	printsAll(t, `;X=a;Y=b`, one("X", "a"), one("Y", "b"))
	printsAll(t, `;Y=b;X=a`, one("Y", "b"), one("X", "a"))
	printsAll(t, `;X=;Y=,;Z="a:b",^n`, one("X", ""), one("Y", "", ""), one("Z", "a:b", "\n"))
	printsAll(t, `;PA=v;PB=v;PC=v;PD=v;PE=v;PF=v`, some(6)...)
}

// P17.2: the error is Check's, or CheckAll's, and there is no text then.
func TestPrintFaults(t *testing.T) {
	x := one("X", "a")
	for _, c := range []struct {
		p Param
		e api.Errno
	}{{one("x", "a"), api.ErrForm}, {one("", "a"), api.ErrForm}, {one("X"), api.ErrMany}, {one("X", times("a", 7)...), api.ErrMany},
		{one("X", strings.Repeat("a", 61)), api.ErrLong}, {one("X", "a", "\r"), api.ErrText}, {one("X", "\xff"), api.ErrText}, {Param{}, api.ErrForm}} {
		if s, e := Print(c.p); s != "" || e != c.e {
			t.Errorf("Print(%q): %q, %d, not %d", c.p, s, e, c.e)
		}
		for _, l := range [][]Param{{c.p}, {one("Y", "a"), c.p}, {c.p, one("Y", "a")}, {x, c.p, x}} {
			if s, e := PrintAll(l); s != "" || e != c.e {
				t.Errorf("PrintAll(%q): %q, %d, not %d", l, s, e, c.e)
			}
		}
	}
	if s, e := PrintAll([]Param{x, one("Y", "a"), x}); s != "" || e != api.ErrTwice {
		t.Errorf("%q, %d", s, e)
	}
	if s, e := PrintAll(some(7)); s != "" || e != api.ErrMany {
		t.Errorf("%q, %d", s, e)
	}
}

// P17.2, rule 3: the lists that are handed in, and their spare room, stay.
func TestPrintLeavesTheLists(t *testing.T) {
	vals := []string{"a,", "b\n", "c^", "d\""}
	room := []Param{{"X", vals[:2]}, {"Y", vals[1:3]}, {"Z", vals[:1]}}
	was, valsWas := clone(room), slices.Clone(vals)
	if s, e := PrintAll(room[:2]); s != `;X="a,",b^n;Y=b^n,c^^` || e != api.OK {
		t.Errorf("%q, %d", s, e)
	}
	if s, e := Print(room[1]); s != `;Y=b^n,c^^` || e != api.OK {
		t.Errorf("%q, %d", s, e)
	}
	Check(room[0])
	CheckAll(room[:2])
	if !alike(room, was) || !slices.Equal(vals, valsWas) {
		t.Errorf("%q, %q", room, vals)
	}
}
