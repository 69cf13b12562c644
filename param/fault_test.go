package param

import (
	"strings"
	"testing"

	"errand/api"
)

// long has one byte more than a value may have.
var long = strings.Repeat("a", 61)

// P17.3
func TestParseTooManyParameters(t *testing.T) {
	six := plainText(some(6))
	refuses(t, plainText(some(7)), api.ErrMany, 30)
	refuses(t, plainText(some(8))+":v", api.ErrMany, 30)
	refuses(t, six+";", api.ErrMany, 30)
	refuses(t, six+";:v", api.ErrMany, 30)
	refuses(t, six+";PA=v", api.ErrMany, 30)
	refuses(t, six+";PG=\x00", api.ErrMany, 30)
	refuses(t, six+`;PG="`, api.ErrMany, 30)
	refuses(t, strings.Repeat(";X", 7), api.ErrForm, 2)
	refuses(t, `;A="";B="";C=;D=;E=,;F=;G=`, api.ErrMany, 23)
}

// P17.3: the longest run of bytes that names may have, or of small letters.
func TestParseNamesOfOtherLengths(t *testing.T) {
	for _, s := range []string{";", ";=", ";=a", ";:", "; X=a", ";;X=a", ";,X=a", ";\"X\"=a", ";_=a", ";\xc3\xa9=a", ";\x00=a", ";\n=a", ";^=a", "; "} {
		refuses(t, s, api.ErrForm, 1)
		refuses(t, ";X=a"+s, api.ErrForm, 5)
		refuses(t, ";X="+s, api.ErrForm, 4)
		refuses(t, `;Y=a;X="a;"`+s+":v", api.ErrForm, 12)
	}
	for _, n := range []int{25, 26, 48, 49, 256, 257, 256 + 24, 1<<16 + 1} {
		for _, c := range []string{"X", "x", "0", "-", "Xy", "z9"} {
			name := strings.Repeat(c, n)[:n]
			for _, behind := range []string{"=a", "", "=", "=a:v", "_=a", "=\"", " ", ";Y=a"} {
				refuses(t, ";"+name+behind, api.ErrForm, 1)
				refuses(t, ";Y=a;"+name+behind, api.ErrForm, 5)
			}
		}
	}
	refuses(t, ";X=a;X"+strings.Repeat("X", 24)+"=a", api.ErrForm, 5)
}

// P17.3: each byte that no name has ends the run.
func TestParseNamesOfEachByte(t *testing.T) {
	const may = "ABCDEFGHIJKLMNOPQRSTUVWXYZabcdefghijklmnopqrstuvwxyz0123456789-"
	for i := range 256 {
		b := string([]byte{byte(i)})
		if i < 128 && strings.Contains(may, b) {
			parses(t, ";"+b+"=a", 4, one(strings.ToUpper(b), "a"))
			parses(t, ";X"+b+"=a", 5, one("X"+strings.ToUpper(b), "a"))
			continue
		}
		refuses(t, ";"+b, api.ErrForm, 1)
		refuses(t, ";"+b+"X=a", api.ErrForm, 1)
		if b != "=" {
			refuses(t, ";X"+b, api.ErrForm, 2)
			refuses(t, ";X"+b+"=a", api.ErrForm, 2)
			refuses(t, ";ABC"+b+"D=a", api.ErrForm, 4)
			refuses(t, ";"+strings.Repeat("a", 24)+b+"=a", api.ErrForm, 25)
		}
	}
}

// P17.3
func TestParseNamesTwice(t *testing.T) {
	refuses(t, ";X=a;X=b", api.ErrTwice, 5)
	refuses(t, ";X=a;X=a:v", api.ErrTwice, 5)
	refuses(t, ";X=a;x=b", api.ErrTwice, 5)
	refuses(t, ";x=a;X=b", api.ErrTwice, 5)
	refuses(t, ";x=a;x=b", api.ErrTwice, 5)
	refuses(t, ";X=a;Y=b;X=c", api.ErrTwice, 9)
	refuses(t, ";Y=a;X=b;X=c", api.ErrTwice, 9)
	refuses(t, ";X=a;Y=b;Y=c;X=d", api.ErrTwice, 9)
	refuses(t, ";Language=en;lANGUAGE=de", api.ErrTwice, 13)
	refuses(t, `;X=";X=a";X=b`, api.ErrTwice, 10)
	for i := range 6 {
		for j := range i {
			l := some(i + 1)
			l[i].Name = l[j].Name
			refuses(t, plainText(l), api.ErrTwice, 5*i+1)
			refuses(t, strings.ToLower(plainText(l)), api.ErrTwice, 5*i+1)
			refuses(t, plainText(l[:i])+strings.ToLower(plainText(l[i:]))+":v", api.ErrTwice, 5*i+1)
		}
	}
	refuses(t, ";X=a;X", api.ErrTwice, 5)
	refuses(t, ";X=a;X\"", api.ErrTwice, 5)
	refuses(t, ";X=a;X:v", api.ErrTwice, 5)
	refuses(t, ";X=a;X=\x00", api.ErrTwice, 5)
}

// P17.3
func TestParseNoEqualsSign(t *testing.T) {
	refuses(t, ";X", api.ErrForm, 2)
	refuses(t, ";LANGUAGE", api.ErrForm, 9)
	refuses(t, ";X:v", api.ErrForm, 2)
	refuses(t, ";X;Y=a", api.ErrForm, 2)
	refuses(t, ";X,Y=a", api.ErrForm, 2)
	refuses(t, ";X =a", api.ErrForm, 2)
	refuses(t, ";X\"=a", api.ErrForm, 2)
	refuses(t, ";X\xff=a", api.ErrForm, 2)
	refuses(t, ";X\n=a", api.ErrForm, 2)
	refuses(t, ";X=a;Y", api.ErrForm, 6)
	refuses(t, ";X=a;Y:v", api.ErrForm, 6)
	refuses(t, ";X=;Y;X=", api.ErrForm, 5)
	refuses(t, ";"+strings.Repeat("X", 24), api.ErrForm, 25)
	refuses(t, ";X=a;"+strings.Repeat("x", 24)+" =a", api.ErrForm, 29)
}

// P17.3: the place is that of the value's first byte, a quotation mark, too.
func TestParseTooManyValues(t *testing.T) {
	for _, v := range []string{"a", "", `""`, `"`, `"a`, "\x00", "a\"", long, `"a"b`, "\xc3"} {
		refuses(t, ";X=a,b,c,d,e,f,"+v, api.ErrMany, 15)
		refuses(t, ";X=,,,,,,"+v, api.ErrMany, 9)
		refuses(t, ";X=,,,,,,"+v+":v", api.ErrMany, 9)
		refuses(t, ";X=,,,,,,"+v+",", api.ErrMany, 9)
		refuses(t, `;Y=a;X="a,",,,,,,`+v+";", api.ErrMany, 17)
		refuses(t, `;X=,,,,,"f",`+v, api.ErrMany, 12)
	}
	refuses(t, ";X="+strings.Repeat(",", 1000), api.ErrMany, 9)
	refuses(t, ";X=,,,,,;Y=,,,,,;Z=,,,,,,", api.ErrMany, 25)
}

// P17.3
func TestParseNotClosed(t *testing.T) {
	for _, s := range []string{`"`, `"a`, `"a,b`, `"a:v`, `"a;Y=b`, `"^'`, `"^^`, `"a\`, "\"\x00", "\"\n", "\"\xff", "\"" + long, "\"a=", "\"\xc3\xa9"} {
		refuses(t, ";X="+s, api.ErrCut, 3+len(s))
		refuses(t, ";X=a,"+s, api.ErrCut, 5+len(s))
		refuses(t, `;X="a",`+s, api.ErrCut, 7+len(s))
		refuses(t, ";X=;Y="+s, api.ErrCut, 6+len(s))
	}
	refuses(t, `;X=",","`, api.ErrCut, 8)
	refuses(t, `;X="","`, api.ErrCut, 7)
	refuses(t, `;X="a:b`+strings.Repeat("c", 1000), api.ErrCut, 1007)
}

// P17.3
func TestParseQuotationMarksWithin(t *testing.T) {
	refuses(t, `;X=a"`, api.ErrForm, 4)
	refuses(t, `;X=a"b"`, api.ErrForm, 4)
	refuses(t, `;X=ab"c":v`, api.ErrForm, 5)
	refuses(t, `;X= "a"`, api.ErrForm, 4)
	refuses(t, `;X=^"a^"`, api.ErrForm, 4)
	refuses(t, `;X=a","b"`, api.ErrForm, 4)
	refuses(t, `;X="a",b"`, api.ErrForm, 8)
	refuses(t, `;X=a,b"c`, api.ErrForm, 6)
	refuses(t, `;X=a;Y=b"`, api.ErrForm, 8)
	refuses(t, `;X=a";Y=b`, api.ErrForm, 4)
	refuses(t, `;X=a"b"c"`, api.ErrForm, 4)
	refuses(t, ";X="+strings.Repeat("a", 60)+`"`, api.ErrForm, 63)
}

// P17.3: each byte, quoted and not, at the beginning, in the middle and at the end.
func TestParseOddBytes(t *testing.T) {
	for i := range 256 {
		if i >= 32 && i < 127 || i == 9 {
			continue
		}
		b := string([]byte{byte(i)})
		for _, c := range []struct {
			v  string
			at int
		}{{b, 0}, {"a" + b, 1}, {b + "a", 0}, {"ab" + b + "cd", 2}, {b + b, 0}, {"\xc3\xa9" + b, 2}, {"^n" + b, 2}, {"^" + b, 1}} {
			refuses(t, ";X="+c.v, api.ErrText, 3+c.at)
			refuses(t, ";X="+c.v+":v", api.ErrText, 3+c.at)
			refuses(t, ";X=a,"+c.v+",b", api.ErrText, 5+c.at)
			refuses(t, `;X="`+c.v+`"`, api.ErrText, 4+c.at)
			refuses(t, `;X="a,","b:`+c.v+`":v`, api.ErrText, 11+c.at)
			refuses(t, ";X=a;Y="+c.v+";Z=", api.ErrText, 7+c.at)
		}
	}
}

// P17.3: a character does not go on behind its value, nor behind a quotation mark, nor behind LF.
func TestParseCharactersThatAreParted(t *testing.T) {
	for _, c := range []string{"\xc3\xa9", "\xe2\x82\xac", "\xf0\x9f\x98\x80"} {
		for i := 1; i < len(c); i++ {
			a, b := c[:i], c[i:]
			refuses(t, ";X="+a, api.ErrText, 3)
			refuses(t, ";X=v"+b, api.ErrText, 4)
			for _, sign := range []string{",", ":", ";", "\n", "^n", "^", "a", "\r\n "} {
				refuses(t, ";X="+a+sign+b, api.ErrText, 3)
			}
			refuses(t, `;X="`+a+`"`+b, api.ErrText, 4)
			refuses(t, ";X="+c+b, api.ErrText, 3+len(c))
		}
	}
	for _, v := range []string{"\xc0\x80", "\xed\xa0\x80", "\xf4\x90\x80\x80", "\xe0\x80\x80", "\xc1\xbf", "\xf8\x88\x80\x80\x80"} {
		refuses(t, ";X=a"+v, api.ErrText, 4)
		refuses(t, `;X="a`+v+`"`, api.ErrText, 5)
	}
}

// P17.3: a value is too long by what it tells, not by how it is written.
func TestParseLongOnceTheyAreRead(t *testing.T) {
	refuses(t, ";X="+long, api.ErrLong, 3)
	refuses(t, ";X="+long+":v", api.ErrLong, 3)
	refuses(t, `;X="`+long+`"`, api.ErrLong, 3)
	refuses(t, ";X=a,"+long, api.ErrLong, 5)
	refuses(t, `;X="a","`+long+`",b`, api.ErrLong, 7)
	refuses(t, ";X=a;Y=b,"+long+";Z=c", api.ErrLong, 9)
	refuses(t, ";X="+strings.Repeat("\xc3\xa9", 31), api.ErrLong, 3)
	refuses(t, ";X="+strings.Repeat("\xc3\xa9", 30)+"a", api.ErrLong, 3)
	for _, c := range []string{"^^", "^n", "^'", "^a"} {
		refuses(t, ";X="+strings.Repeat(c, 61), api.ErrLong, 3)
		refuses(t, `;X="`+strings.Repeat(c, 61)+`"`, api.ErrLong, 3)
		refuses(t, ";X="+strings.Repeat("b", 60)+c, api.ErrLong, 3)
		refuses(t, ";X="+c+strings.Repeat("b", 60), api.ErrLong, 3)
		refuses(t, ";X="+strings.Repeat("b", 58)+c+"cd", api.ErrLong, 3)
	}
	refuses(t, ";X="+strings.Repeat("b", 60)+"^", api.ErrLong, 3)
	for _, n := range []int{62, 120, 256, 256 + 60, 1<<16 + 1} {
		refuses(t, ";X="+strings.Repeat("a", n), api.ErrLong, 3)
		refuses(t, `;X="`+strings.Repeat(";", n)+`"`, api.ErrLong, 3)
	}
}

// P17.3
func TestParseBehindAClosingQuotationMark(t *testing.T) {
	for i := range 256 {
		b := string([]byte{byte(i)})
		if strings.Contains(",:;", b) {
			continue
		}
		refuses(t, `;X="a"`+b, api.ErrForm, 6)
		refuses(t, `;X=""`+b+":v", api.ErrForm, 5)
		refuses(t, `;X=a,"b,"`+b+",c", api.ErrForm, 9)
		refuses(t, `;X=a;Y="b;"`+b+";Z=c", api.ErrForm, 11)
	}
	refuses(t, `;X="""`, api.ErrForm, 5)
	refuses(t, `;X="a""b"`, api.ErrForm, 6)
	refuses(t, `;X="a"b"`, api.ErrForm, 6)
	refuses(t, `;X="a" :v`, api.ErrForm, 6)
	refuses(t, `;X="a^"b"`, api.ErrForm, 7)
	refuses(t, `;X="`+strings.Repeat("a", 60)+`"a`, api.ErrForm, 65)
}

// P17.3: of two faults at one value, or at one semicolon, the first by the promise's order, wherever they stand.
func TestParseFirstOfTwoFaults(t *testing.T) {
	refuses(t, ";X=\x00\"", api.ErrForm, 4)
	refuses(t, ";X=a\xffb\"c", api.ErrForm, 6)
	refuses(t, ";X="+long+"\"", api.ErrForm, 64)
	refuses(t, ";X="+long+"\x00", api.ErrText, 64)
	refuses(t, ";X="+long+"\x00\"", api.ErrForm, 65)
	refuses(t, `;X="`+long+"\r\"", api.ErrText, 65)
	refuses(t, `;X="`+long+`"a`, api.ErrLong, 3)
	refuses(t, ";X=\"\n\"a", api.ErrText, 4)
	refuses(t, ";X=\"\n\"\x00", api.ErrText, 4)
	refuses(t, `;X="`+long+"\xff\"a", api.ErrText, 65)
	refuses(t, `;X="`+long, api.ErrCut, 65)
	refuses(t, ";X=a;x\x00", api.ErrTwice, 5)
	refuses(t, ";X=a;"+strings.Repeat("X", 25), api.ErrForm, 5)
}

// P17.3: of two faults at two values, or semicolons, the one that stands ahead.
func TestParseFaultsOneBehindTheOther(t *testing.T) {
	refuses(t, ";X=\x00,a\"", api.ErrText, 3)
	refuses(t, ";X=a\",\x00", api.ErrForm, 4)
	refuses(t, ";X="+long+",\"", api.ErrLong, 3)
	refuses(t, ";X="+long+",\x00", api.ErrLong, 3)
	refuses(t, ";X=\x00,"+long, api.ErrText, 3)
	refuses(t, `;X="a"b,"`, api.ErrForm, 6)
	refuses(t, `;X="a`+"\x00"+`",b"`, api.ErrText, 5)
	refuses(t, ";X="+long+";X=a", api.ErrLong, 3)
	refuses(t, ";X=a;Y=\x00;X=b", api.ErrText, 7)
	refuses(t, ";X=a;X=b;Y", api.ErrTwice, 5)
	refuses(t, ";X=a;Y;X=b", api.ErrForm, 6)
	refuses(t, ";X=,,,,,\xff,", api.ErrText, 8)
	refuses(t, ";X=,,,,,,;X=", api.ErrMany, 9)
	refuses(t, plainText(some(5))+";PF=\";", api.ErrCut, 31)
	refuses(t, plainText(some(5))+";PF=\"\"a;PG=", api.ErrForm, 31)
	refuses(t, plainText(some(5))+";PA=;PG=", api.ErrTwice, 26)
	refuses(t, ";X=a\";:", api.ErrForm, 4)
	parses(t, ";X=a:\"", 4, one("X", "a"))
}
