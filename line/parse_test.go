package line

import (
	"slices"
	"strings"
	"testing"
)

// P18.3
func TestParse(t *testing.T) {
	parses(t, "SUMMARY:Milk", of("SUMMARY", "Milk"))
	parses(t, "summary;language=en:Milk", of("SUMMARY", "Milk", one("LANGUAGE", "en")))
	parses(t, "X:", of("X", ""))
	parses(t, "x:", of("X", ""))
	parses(t, "-:-", of("-", "-"))
	parses(t, "0;1=2:3", of("0", "3", one("1", "2")))
	parses(t, "X;Y=:", of("X", "", one("Y", "")))
	parses(t, `X;Y=a,"b;c";z="d:e",^n:f`, of("X", "f", one("Y", "a", "b;c"), one("Z", "d:e", "\n")))
	parses(t, "begin:vtodo", of("BEGIN", "vtodo"))
}

// P18.3: the beginning, in capitals.
func TestParseNames(t *testing.T) {
	const small = "abcdefghijklmnopqrstuvwxyz0123456789-"
	for n := 1; n <= 24; n++ {
		for _, name := range []string{small[:n], strings.ToUpper(small[:n]), strings.Repeat("xY", 12)[:n], strings.Repeat("-", n), small[len(small)-n:], strings.Repeat("9", n), strings.Repeat("z", n)} {
			parses(t, name+":v", of(strings.ToUpper(name), "v"))
			parses(t, name+";a=b:", of(strings.ToUpper(name), "", one("A", "b")))
		}
	}
	for i := range small {
		b := small[i : i+1]
		parses(t, b+":"+b, of(strings.ToUpper(b), b))
		parses(t, "X"+b+"y:v", of("X"+strings.ToUpper(b)+"Y", "v"))
	}
	parses(t, "Related-To:v", of("RELATED-TO", "v"))
}

// P18.3
func TestParseParams(t *testing.T) {
	for n := range 7 {
		parses(t, "X"+plainText(of("", "v", some(n)...)), of("X", "v", some(n)...))
	}
	parses(t, "X;X=a:X", of("X", "X", one("X", "a")))
	parses(t, "X;Y=,,,,,:v", of("X", "v", one("Y", "", "", "", "", "", "")))
	parses(t, `X;Y=":":v`, of("X", "v", one("Y", ":")))
	parses(t, `X;Y=";Z=a:b":v`, of("X", "v", one("Y", ";Z=a:b")))
	parses(t, `X;Y="":v`, of("X", "v", one("Y", "")))
	parses(t, "X;Y="+strings.Repeat("^^", 60)+":v", of("X", "v", one("Y", strings.Repeat("^", 60))))
	parses(t, strings.Repeat("x", 24)+";"+strings.Repeat("y", 24)+"=a:v", of(strings.Repeat("X", 24), "v", one(strings.Repeat("Y", 24), "a")))
}

// P18.3: the value is the rest, with more colons, and whatever else would be a sign ahead of it.
func TestParseValues(t *testing.T) {
	for _, v := range []string{"", ":", "::", "a:b", ":a", "a:", ";", ";Y=a", ";Y=a:b", ";", ";;", "=", ",", "\"", "\"a", "\"a\"b", "^n", "^", " ", " a", "a ", "\t", "\\n", "x", "X:v", "\xc3\xa9", "\xe2\x82\xac:", "\xef\xbf\xbd", "\xc2\x85"} {
		parses(t, "X:"+v, of("X", v))
		parses(t, "x;y=a:"+v, of("X", v, one("Y", "a")))
		parses(t, `X;Y="a":`+v, of("X", v, one("Y", "a")))
	}
	for i := range 128 {
		if i < 32 && i != 9 || i == 127 {
			continue
		}
		b := string([]byte{byte(i)})
		for _, v := range []string{b, b + "a", "a" + b, b + b, "ab" + b + "cd"} {
			parses(t, "X:"+v, of("X", v))
			parses(t, "X;Y=a:"+v, of("X", v, one("Y", "a")))
		}
	}
}

// P18.3
func TestParseLongValues(t *testing.T) {
	for n := range 201 {
		parses(t, "X:"+fill(n), of("X", fill(n)))
		parses(t, "X;Y="+strings.Repeat("a", 60)+":"+fill(n), of("X", fill(n), one("Y", strings.Repeat("a", 60))))
	}
	parses(t, "X:"+strings.Repeat(":", 200), of("X", strings.Repeat(":", 200)))
	parses(t, "X:"+strings.Repeat("\xc3\xa9", 100), of("X", strings.Repeat("\xc3\xa9", 100)))
	parses(t, "X:"+strings.Repeat("\xf0\x9f\x98\x80", 50), of("X", strings.Repeat("\xf0\x9f\x98\x80", 50)))
}

// P18.3, rule 3: each answer is new, and no two lists of it share any.
func TestParseListsHaveNothingInCommon(t *testing.T) {
	const s = "X;X=a,b;Y=c,d;Z=e:v"
	l, _ := Parse(s)
	again, _ := Parse(s)
	l.Params[0].Vals = append(l.Params[0].Vals, "x", "x", "x")
	l.Params[1].Vals[0] = "y"
	if want := of("X", "v", one("X", "a", "b", "x", "x", "x"), one("Y", "y", "d"), one("Z", "e")); !equal(l, want) {
		t.Errorf("%q", l)
	}
	spoil([]Line{l})
	if want := of("X", "v", one("X", "a", "b"), one("Y", "c", "d"), one("Z", "e")); !equal(again, want) {
		t.Errorf("%q", again)
	}
	for _, p := range again.Params {
		room := p.Vals[:cap(p.Vals)]
		for i := range room {
			room[i] = p.Name
		}
	}
	for _, p := range again.Params {
		if !slices.Equal(p.Vals, slices.Repeat([]string{p.Name}, len(p.Vals))) {
			t.Errorf("%q", again)
		}
	}
}
