package line

import (
	"errors"
	"strings"
	"testing"

	"errand/api"
	"errand/fault"
	"errand/param"
)

// P18.3: a beginning of no bytes.
func TestParseNoName(t *testing.T) {
	for _, s := range []string{"", ":", ":v", ";", ";X=a", ";X=a:v", " ", " X:v", "\tX:v", "_:v", "=", "\"X\":v", ",", "\xc3\xa9:v", "\x00", "\xff:v", "\n", "^X:v", ".", "\r\nX:v", "\xef\xbb\xbfX:v"} {
		refuses(t, s, api.ErrForm, 0)
	}
	for i := range 256 {
		b := string([]byte{byte(i)})
		if headForm.FindString(b) != "" {
			continue
		}
		for _, rest := range []string{"", ":v", "X:v", ";X=a:v", ";", "\x00", "x"} {
			refuses(t, b+rest, api.ErrForm, 0)
		}
	}
}

// P18.3: the longest beginning of bytes that names may have, or of small letters.
func TestParseLongNames(t *testing.T) {
	for _, n := range []int{25, 26, 48, 49, 255, 256, 257, 256 + 24, 1<<16 + 1} {
		for _, c := range []string{"X", "x", "0", "-", "Xy", "z9"} {
			name := strings.Repeat(c, n)[:n]
			for _, rest := range []string{"", ":v", ";X=a:v", ";", ";X", ":\x00", " ", "\x00", "_"} {
				refuses(t, name+rest, api.ErrForm, 0)
			}
		}
	}
	for _, c := range []string{"X", "x", "0", "-"} {
		name := strings.Repeat("X", 23) + c
		parses(t, name+":v", of(strings.ToUpper(name), "v"))
		refuses(t, name+c+":v", api.ErrForm, 0)
		refuses(t, name, api.ErrForm, 24)
		refuses(t, name+"_"+c+":v", api.ErrForm, 24)
	}
}

// P18.3: each error of param.Parse, counted from the name's end.
func TestParseFaultsOfParams(t *testing.T) {
	for _, name := range []string{"X", "x", "SUMMARY", "Summary", strings.Repeat("n", 24)} {
		refusesParams(t, name, plainText(of("", "v", some(7)...)), api.ErrMany, 30)
		refusesParams(t, name, ";", api.ErrForm, 1)
		refusesParams(t, name, ";:v", api.ErrForm, 1)
		refusesParams(t, name, ";;Y=a:v", api.ErrForm, 1)
		refusesParams(t, name, ";"+strings.Repeat("Y", 25)+"=a:v", api.ErrForm, 1)
		refusesParams(t, name, ";Y=a;Y=b:v", api.ErrTwice, 5)
		refusesParams(t, name, ";Y=a;y=b:v", api.ErrTwice, 5)
		refusesParams(t, name, ";Y", api.ErrForm, 2)
		refusesParams(t, name, ";Y:v", api.ErrForm, 2)
		refusesParams(t, name, ";Y=,,,,,,:v", api.ErrMany, 9)
		refusesParams(t, name, `;Y="a:v`, api.ErrCut, 7)
		refusesParams(t, name, `;Y=a"b":v`, api.ErrForm, 4)
		refusesParams(t, name, ";Y=a\x00:v", api.ErrText, 4)
		refusesParams(t, name, ";Y=\"a\xff\":v", api.ErrText, 5)
		refusesParams(t, name, ";Y=a;Z=\n:v", api.ErrText, 7)
		refusesParams(t, name, ";Y=a,"+strings.Repeat("b", 61)+":v", api.ErrLong, 5)
		refusesParams(t, name, `;Y="a"b:v`, api.ErrForm, 6)
		refusesParams(t, name, ";Y=\"a\"\x00:v", api.ErrForm, 6)
	}
}

// P18.3: what errors.As finds is the fault by the beginning's length, and behind it that of the parameters.
func TestParseFaultWithinAFault(t *testing.T) {
	_, err := Parse("SUMMARY;A=b;C:v")
	_, _, within := param.Parse(";A=b;C:v")
	var outer, inner *fault.Fault
	if !errors.As(err, &outer) || outer.At != 7 || !errors.As(outer.Why, &inner) || *inner != (fault.Fault{At: 6, Why: api.ErrForm}) {
		t.Fatalf("%v, %v", outer, inner)
	}
	if fault.Depth(err) != fault.Depth(fault.In(within, 7)) || fault.Place(err) != 13 || fault.Place(errors.Unwrap(err)) != fault.Place(within) || fault.Code(err) != fault.Code(within) {
		t.Errorf("%d, %d, %d", fault.Depth(err), fault.Place(err), fault.Code(err))
	}
	var e api.Errno
	if !errors.As(err, &e) || e != api.ErrForm || !errors.Is(err, api.ErrForm) || errors.Is(err, api.ErrText) {
		t.Errorf("%d", e)
	}
	_, err = Parse("SUMMARY")
	if !errors.As(err, &outer) || *outer != (fault.Fault{At: 7, Why: api.ErrForm}) || fault.Depth(err) != 1 {
		t.Errorf("%v", err)
	}
}

// P18.3: no colon behind the name, behind the parameters, and at the text's end.
func TestParseNoColon(t *testing.T) {
	for _, name := range []string{"X", "x", "SUMMARY", strings.Repeat("N", 24)} {
		n := len(name)
		for _, rest := range []string{"", " ", " :v", "=a:v", ",:v", "\":v", "_:v", "\x00:v", "\xff:v", "\n", "\r\n:v", "\xc3\xa9:v", "^", ".:"} {
			refuses(t, name+rest, api.ErrForm, n)
		}
		refuses(t, name+";Y=a", api.ErrForm, n+4)
		refuses(t, name+";Y=", api.ErrForm, n+3)
		refuses(t, name+`;Y="a:v"`, api.ErrForm, n+8)
		refuses(t, name+`;Y="",a`, api.ErrForm, n+7)
		refuses(t, name+";Y=a b", api.ErrForm, n+6)
		refuses(t, name+plainText(of("", "", some(6)...))[:30], api.ErrForm, n+30)
	}
	for i := range 256 {
		b := string([]byte{byte(i)})
		if b != ":" && b != ";" && headForm.FindString(b) == "" {
			refuses(t, "X"+b, api.ErrForm, 1)
			refuses(t, "X"+b+":v", api.ErrForm, 1)
			refuses(t, "SUMMARY"+b+";X=a:v", api.ErrForm, 7)
		}
	}
}

// P18.3: the place is that of the value's first byte.
func TestParseTooLongValues(t *testing.T) {
	for _, n := range []int{201, 202, 255, 256, 256 + 200, 1 << 16, 1<<16 + 200} {
		refuses(t, "X:"+fill(n), api.ErrLong, 2)
		refuses(t, "SUMMARY:"+fill(n), api.ErrLong, 8)
		refuses(t, "X;Y=a:"+fill(n), api.ErrLong, 6)
		refuses(t, `X;Y=":":`+fill(n), api.ErrLong, 8)
		refuses(t, "X"+plainText(of("", fill(n), some(6)...)), api.ErrLong, 32)
	}
	refuses(t, "X:"+strings.Repeat(":", 201), api.ErrLong, 2)
	refuses(t, "X:"+strings.Repeat("\xc3\xa9", 101), api.ErrLong, 2)
	refuses(t, "X:"+strings.Repeat("\xc3\xa9", 100)+"a", api.ErrLong, 2)
	refuses(t, "X:"+strings.Repeat(" ", 201), api.ErrLong, 2)
}

// P18.3: each odd byte at the beginning, within, and at the end.
func TestParseOddBytes(t *testing.T) {
	for i := range 256 {
		if i >= 32 && i < 127 || i == 9 {
			continue
		}
		b := string([]byte{byte(i)})
		for _, c := range []struct {
			v  string
			at int
		}{{b, 0}, {"a" + b, 1}, {b + "a", 0}, {"ab" + b + "cd", 2}, {b + b, 0}, {"a" + b + "c\x00", 1}, {"\xc3\xa9" + b, 2}, {":" + b, 1}, {fill(199) + b, 199}, {b + fill(199), 0}, {fill(100) + b + fill(99), 100}} {
			refuses(t, "X:"+c.v, api.ErrText, 2+c.at)
			refuses(t, "SUMMARY:"+c.v, api.ErrText, 8+c.at)
			refuses(t, "x;y=a:"+c.v, api.ErrText, 6+c.at)
			refuses(t, `X;Y="a:b";Z=^n:`+c.v, api.ErrText, 15+c.at)
		}
	}
	for _, v := range []string{"\xc0\x80", "\xed\xa0\x80", "\xf4\x90\x80\x80", "\xe0\x80\x80", "\xc1\xbf", "\xe2\x82", "\xf0\x9f\x98"} {
		refuses(t, "X:a"+v, api.ErrText, 3)
		refuses(t, "X:a"+v+"b", api.ErrText, 3)
	}
}

// P18.3: a character does not go on behind the colon.
func TestParseCharactersThatAreParted(t *testing.T) {
	for _, c := range []string{"\xc3\xa9", "\xe2\x82\xac", "\xf0\x9f\x98\x80"} {
		for i := 1; i < len(c); i++ {
			refuses(t, "X:"+c[:i]+":"+c[i:], api.ErrText, 2)
			refuses(t, "X:"+c[i:], api.ErrText, 2)
			refuses(t, "X"+c[:i]+":"+c[i:], api.ErrForm, 1)
			refusesParams(t, "X", ";Y="+c[:i]+":"+c[i:], api.ErrText, 3)
		}
	}
}

// P18.3: of two faults in one text the first by the promise's order.
func TestParseSeveralFaults(t *testing.T) {
	long, bad := fill(201), "a\x00"
	for _, name := range []string{"", strings.Repeat("X", 25)} {
		for _, rest := range []string{";Y", ";Y=\x00:v", "", ":" + long, ":" + bad, ";Y=a", ";:" + bad, ";Y=a:" + long} {
			refuses(t, name+rest, api.ErrForm, 0)
		}
	}
	for _, value := range []string{"", ":" + long, ":" + bad, ":" + long + bad} {
		refusesParams(t, "X", ";Y"+value, api.ErrForm, 2)
		refusesParams(t, "X", ";"+value, api.ErrForm, 1)
		refusesParams(t, "X", ";Y=\x7f"+value, api.ErrText, 3)
		refusesParams(t, "X", ";Y=a;Y=b"+value, api.ErrTwice, 5)
		refusesParams(t, "X", ";Y="+strings.Repeat("a", 61)+value, api.ErrLong, 3)
		refuses(t, "X "+value, api.ErrForm, 1)
	}
	refuses(t, "X:"+bad+long, api.ErrLong, 2)
	refuses(t, "X:"+long+bad, api.ErrLong, 2)
	refuses(t, "X;Y=a:"+fill(200)+"\x00", api.ErrLong, 6)
	refuses(t, "X;Y=a:\xff"+fill(200), api.ErrLong, 6)
	refuses(t, "X;Y=a:\xff"+fill(199), api.ErrText, 6)
	refuses(t, "X:a\xffb\x00", api.ErrText, 3)
	refuses(t, "X_:"+bad, api.ErrForm, 1)
}

// P18.3: with an error the line is the zero line.
func TestParseZeroLine(t *testing.T) {
	for _, s := range []string{"", "X", "X;Y", "X;Y=a", "X;Y=a;Z", "X:" + fill(201), "X;Y=a:" + fill(201), "X:\x00", "X;Y=a:b\x00", strings.Repeat("x", 25) + ";Y=a:v"} {
		l, err := Parse(s)
		if l.Name != "" || len(l.Params) != 0 || l.Value != "" || err == nil {
			t.Errorf("Parse(%.40q): %q, %v", s, l, err)
		}
	}
}
