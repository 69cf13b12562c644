package param

import (
	"slices"
	"strings"
	"testing"
)

// P17.3
func TestParse(t *testing.T) {
	parses(t, ";X=a", 4, one("X", "a"))
	parses(t, ";X=a:v", 4, one("X", "a"))
	parses(t, ";LANGUAGE=en:Milk", 12, one("LANGUAGE", "en"))
	parses(t, ";X=a,b,c:", 8, one("X", "a", "b", "c"))
	parses(t, ";X=a;Y=b:v", 8, one("X", "a"), one("Y", "b"))
	parses(t, ";Y=b;X=a", 8, one("Y", "b"), one("X", "a"))
	parses(t, ";X=a,b;Y=c;Z=d,e:v", 16, one("X", "a", "b"), one("Y", "c"), one("Z", "d", "e"))
	parses(t, ";RELTYPE=FINISHTOSTART;GAP=PT5M:a@b", 31, one("RELTYPE", "FINISHTOSTART"), one("GAP", "PT5M"))
}

// P17.3
func TestParseNoParameters(t *testing.T) {
	for _, s := range []string{"", ":", ":v", ":;X=a", "a", "X=a", " ;X=a", "\x00", "\xff", "\"", ",", "=", "^", "\n;X=a", ":\r\n"} {
		parses(t, s, 0)
	}
}

// P17.3: what stands behind the parameters is not read.
func TestParseEndsAtAColon(t *testing.T) {
	for _, rest := range []string{":", "::", ":v", ":;", ":;X=b", ":\"", ":\x00\xff", ":a,b;c\"d^", ":\n", ":" + strings.Repeat("a", 100)} {
		parses(t, ";X=a"+rest, 4, one("X", "a"))
		parses(t, ";X="+rest, 3, one("X", ""))
		parses(t, ";X=a,"+rest, 5, one("X", "a", ""))
		parses(t, `;X="a"`+rest, 6, one("X", "a"))
		parses(t, `;X="a:"`+rest, 7, one("X", "a:"))
		parses(t, `;X=a;Y="b",c`+rest, 12, one("X", "a"), one("Y", "b", "c"))
	}
}

// P17.3: small letters of names are read as capitals; those of values stay.
func TestParseNames(t *testing.T) {
	parses(t, ";language=en", 12, one("LANGUAGE", "en"))
	parses(t, ";Language=En", 12, one("LANGUAGE", "En"))
	parses(t, ";x-a=B;X-b=a", 12, one("X-A", "B"), one("X-B", "a"))
	parses(t, ";abcdefghijklm=a;nopqrstuvwxyz=b", 32, one("ABCDEFGHIJKLM", "a"), one("NOPQRSTUVWXYZ", "b"))
	parses(t, ";0=a;-=b;9z=c", 13, one("0", "a"), one("-", "b"), one("9Z", "c"))
	for n := 1; n <= 24; n++ {
		parses(t, ";"+strings.Repeat("X", n)+"=a", n+3, one(strings.Repeat("X", n), "a"))
		parses(t, ";"+strings.Repeat("y", n)+"=a:", n+3, one(strings.Repeat("Y", n), "a"))
	}
}

// P17.3: names of which one begins with the other are two.
func TestParseNamesThatAreAlike(t *testing.T) {
	parses(t, ";X=a;XX=b;X-=c;-X=d", 19, one("X", "a"), one("XX", "b"), one("X-", "c"), one("-X", "d"))
	parses(t, ";AB=a;BA=b;A=c;B=d", 18, one("AB", "a"), one("BA", "b"), one("A", "c"), one("B", "d"))
	parses(t, ";X=Y;Y=X", 8, one("X", "Y"), one("Y", "X"))
}

// P17.3
func TestParseValuesWithoutBytes(t *testing.T) {
	parses(t, ";X=", 3, one("X", ""))
	parses(t, ";X=,", 4, one("X", "", ""))
	parses(t, ";X=,a", 5, one("X", "", "a"))
	parses(t, ";X=a,", 5, one("X", "a", ""))
	parses(t, ";X=a,,b", 7, one("X", "a", "", "b"))
	parses(t, ";X=,,,,,", 8, one("X", times("", 6)...))
	parses(t, ";X=;Y=", 6, one("X", ""), one("Y", ""))
	parses(t, ";X=,;Y=,:", 8, one("X", "", ""), one("Y", "", ""))
	parses(t, `;X=""`, 5, one("X", ""))
	parses(t, `;X="",""`, 8, one("X", "", ""))
	parses(t, `;X="",`, 6, one("X", "", ""))
	parses(t, `;X=,"":`, 6, one("X", "", ""))
	parses(t, `;X="";Y="":v`, 10, one("X", ""), one("Y", ""))
}

// P17.3: a value that is quoted may have what would end others.
func TestParseQuoted(t *testing.T) {
	parses(t, `;X="a"`, 6, one("X", "a"))
	parses(t, `;X="a":v`, 6, one("X", "a"))
	parses(t, `;X="a;b"`, 8, one("X", "a;b"))
	parses(t, `;X="a,b"`, 8, one("X", "a,b"))
	parses(t, `;X="a:b"`, 8, one("X", "a:b"))
	parses(t, `;X=",:;"`, 8, one("X", ",:;"))
	parses(t, `;X=";Y=a"`, 9, one("X", ";Y=a"))
	parses(t, `;X="a","b",c;Y="d":e`, 18, one("X", "a", "b", "c"), one("Y", "d"))
	parses(t, `;X=a,"b";Y=c`, 12, one("X", "a", "b"), one("Y", "c"))
	parses(t, `;X="a b	c='\"`, 13, one("X", "a b\tc='\\"))
	parses(t, `;X="a":"`, 6, one("X", "a"))
	parses(t, `;X="mailto:a@b.c","mailto:d@e.f":g`, 32, one("X", "mailto:a@b.c", "mailto:d@e.f"))
}

// P17.3: bytes that a value without quotation marks may have, and what a value is not quoted for.
func TestParseOtherBytes(t *testing.T) {
	parses(t, ";X= ", 4, one("X", " "))
	parses(t, ";X=a=b==", 8, one("X", "a=b=="))
	parses(t, ";X=a\tb\\c'd/e|", 13, one("X", "a\tb\\c'd/e|"))
	parses(t, ";X=\xc3\xa9,\xe2\x82\xac:\xf0", 9, one("X", "\xc3\xa9", "\xe2\x82\xac"))
	parses(t, ";X=\xf0\x9f\x98\x80,\"\xef\xbf\xbd\"", 13, one("X", "\xf0\x9f\x98\x80", "\xef\xbf\xbd"))
	parses(t, ";X=\xc2\x85", 5, one("X", "\xc2\x85"))
	for i := range 128 {
		b := string([]byte{byte(i)})
		if i < 32 && i != 9 || i == 127 || i == '"' {
			continue
		}
		parses(t, `;X="`+b+`"`, 6, one("X", b))
		parses(t, `;X=a,"b`+b+`":`, 9, one("X", "a", "b"+b))
		if !strings.Contains(",:;", b) {
			parses(t, ";X="+b, 4, one("X", b))
			parses(t, ";X=a"+b+",b"+b+":v", 8, one("X", "a"+b, "b"+b))
		}
	}
}

// P17.3: what a caret stands for, quoted and not.
func TestParseCarets(t *testing.T) {
	for _, c := range []struct{ text, want string }{
		{"^^", "^"}, {"^n", "\n"}, {"^'", "\""}, {"^", "^"}, {"^^^", "^^"}, {"^^^^", "^^"}, {"^^^^^", "^^^"}, {"^^n", "^n"}, {"^^'", "^'"}, {"^^^n", "^\n"}, {"^^^'", "^\""},
		{"^^^^n", "^^n"}, {"^n^n", "\n\n"}, {"^'^'", "\"\""}, {"^n^'^^", "\n\"^"}, {"^nn", "\nn"}, {"^''", "\"'"}, {"n^", "n^"}, {"'^", "'^"}, {"a^", "a^"}, {"a^^", "a^"},
		{"^N", "^N"}, {"^a", "^a"}, {"^ n", "^ n"}, {"^=", "^="}, {"^\\n", "^\\n"}, {"^\t", "^\t"}, {"^\xc3\xa9", "^\xc3\xa9"}, {"^0", "^0"}, {"^-^n", "^-\n"}, {"^a^b^", "^a^b^"},
		{"a^nb^'c^^d", "a\nb\"c^d"}, {"^`", "^`"}, {"^/", "^/"},
	} {
		n := len(c.text)
		parses(t, ";X="+c.text, 3+n, one("X", c.want))
		parses(t, ";X="+c.text+":n", 3+n, one("X", c.want))
		parses(t, ";X="+c.text+","+c.text+";Y="+c.text, 7+3*n, one("X", c.want, c.want), one("Y", c.want))
		parses(t, `;X="`+c.text+`"`, 5+n, one("X", c.want))
		parses(t, `;X="`+c.text+`","`+c.text+`":n`, 8+2*n, one("X", c.want, c.want))
		parses(t, ";X=a"+c.text+"b", 5+n, one("X", signs.Replace("a"+c.text+"b")))
	}
}

// P17.3: a caret stands for nothing together with what is behind its value.
func TestParseCaretAtAValuesEnd(t *testing.T) {
	parses(t, ";X=^,n", 6, one("X", "^", "n"))
	parses(t, ";X=^;n=^", 8, one("X", "^"), one("N", "^"))
	parses(t, ";X=^:n", 4, one("X", "^"))
	parses(t, `;X="^":n`, 6, one("X", "^"))
	parses(t, `;X="^",'`, 8, one("X", "^", "'"))
	parses(t, `;X=^,^`, 6, one("X", "^", "^"))
	parses(t, `;X="^","^"`, 10, one("X", "^", "^"))
	parses(t, `;X="^,n"`, 8, one("X", "^,n"))
	parses(t, `;X="^:^;"`, 9, one("X", "^:^;"))
}

// P17.3: quotation marks that a caret tells are none of those that a value is quoted by.
func TestParseCaretsForQuotationMarks(t *testing.T) {
	parses(t, `;X=^'a^'`, 8, one("X", `"a"`))
	parses(t, `;X=^'a,b^'`, 10, one("X", `"a`, `b"`))
	parses(t, `;X="^'a,b^'"`, 12, one("X", `"a,b"`))
	parses(t, `;X="a^'"`, 8, one("X", `a"`))
	parses(t, `;X=a^'b`, 7, one("X", `a"b`))
}

// P17.3
func TestParseLongValues(t *testing.T) {
	for n := 58; n <= 60; n++ {
		parses(t, ";X="+strings.Repeat("a", n), 3+n, one("X", strings.Repeat("a", n)))
		parses(t, `;X="`+strings.Repeat("a", n)+`":`, 5+n, one("X", strings.Repeat("a", n)))
		parses(t, ";X="+strings.Repeat("\xc3\xa9", n/2), 3+n/2*2, one("X", strings.Repeat("\xc3\xa9", n/2)))
		for _, c := range []struct{ text, want string }{{"^^", "^"}, {"^n", "\n"}, {"^'", "\""}} {
			parses(t, ";X="+strings.Repeat(c.text, n), 3+2*n, one("X", strings.Repeat(c.want, n)))
			parses(t, `;X="`+strings.Repeat(c.text, n)+`"`, 5+2*n, one("X", strings.Repeat(c.want, n)))
			parses(t, ";X=b"+strings.Repeat(c.text, 59)+","+strings.Repeat("a", 60), 3+1+118+1+60, one("X", "b"+strings.Repeat(c.want, 59), strings.Repeat("a", 60)))
		}
	}
}

// P17.3
func TestParseSixValuesAndSixParameters(t *testing.T) {
	for n := 1; n <= 6; n++ {
		s := ";X=" + strings.Join(times("a", n), ",")
		parses(t, s, len(s), one("X", times("a", n)...))
		s = ";X=" + strings.Join(times(`"a,"`, n), ",") + ":a,a,a,a,a,a,a"
		parses(t, s, 3+5*n-1, one("X", times("a,", n)...))
		parses(t, plainText(some(n)), 5*n, some(n)...)
		parses(t, plainText(some(n))+":"+plainText(some(7)), 5*n, some(n)...)
	}
	all := some(6)
	for i := range all {
		all[i].Vals = times(`,"`, 6)
	}
	s := plainText(all)
	parses(t, s+":", len(s), all...)
}

// P17.3, rule 3: each list is new, and no two lists of an answer share any.
func TestParseListsHaveNothingInCommon(t *testing.T) {
	const s = ";X=a,b;Y=c,d;Z=e"
	l, _, _ := Parse(s)
	again, _, _ := Parse(s)
	l[0].Vals = append(l[0].Vals, "x", "x", "x", "x")
	l[1].Vals[0] = "y"
	l = append(l[:2], one("Q", "q"))
	want := []Param{one("X", "a", "b"), one("Y", "c", "d"), one("Z", "e")}
	if !alike(again, want) {
		t.Errorf("%q", again)
	}
	if !alike(l, []Param{one("X", "a", "b", "x", "x", "x", "x"), one("Y", "y", "d"), one("Q", "q")}) {
		t.Errorf("%q", l)
	}
	parses(t, s, len(s), want...)
	for _, p := range again {
		room := p.Vals[:cap(p.Vals)]
		for i := range room {
			room[i] = p.Name
		}
	}
	for _, p := range again {
		if !slices.Equal(p.Vals, times(p.Name, len(p.Vals))) {
			t.Errorf("%q", again)
		}
	}
}
