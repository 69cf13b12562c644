package escape

import (
	"slices"
	"strings"
	"testing"
)

// P16.3
func TestJoin(t *testing.T) {
	joins(t, "")
	joins(t, "a", "a")
	joins(t, "a,b", "a", "b")
	joins(t, "b,a,a,c", "b", "a", "a", "c")
	joins(t, "home\\, garden,work\\; desk,C:\\\\,two\\nrows", "home, garden", "work; desk", "C:\\", "two\nrows")
	joins(t, "\\,", ",")
	joins(t, "\\,,\\,", ",", ",")
	joins(t, "a\\,b", "a,b")
	joins(t, "\\\\n,n", "\\n", "n")
}

// P16.3
func TestJoinNoTexts(t *testing.T) {
	for _, l := range [][]string{nil, {}, make([]string, 0, 4)} {
		if got := Join(l); got != "" {
			t.Errorf("%q", got)
		}
	}
}

// P16.3
func TestJoinTextsWithoutBytes(t *testing.T) {
	joins(t, "", "")
	joins(t, ",", "", "")
	joins(t, ",,", "", "", "")
	joins(t, ",a", "", "a")
	joins(t, "a,", "a", "")
	joins(t, "a,,b", "a", "", "b")
	joins(t, ",a,,b,", "", "a", "", "b", "")
}

// P16.3: a comma between two texts is not taken for one of the text's own.
func TestJoinTextsThatEndWithABackslash(t *testing.T) {
	joins(t, "\\\\", "\\")
	joins(t, "a\\\\", "a\\")
	joins(t, "a\\\\,b", "a\\", "b")
	joins(t, "\\\\,\\\\,\\\\", "\\", "\\", "\\")
	joins(t, "\\\\\\\\,n", "\\\\", "n")
	joins(t, "\\\\,\\,", "\\", ",")
	joins(t, "a\\\\,,b\\\\", "a\\", "", "b\\")
}

// P16.3: the list that is handed in, and its spare room, stay.
func TestJoinLeavesTheList(t *testing.T) {
	room := []string{"a", "b,", "c\\", "d;", "e\n"}
	was := slices.Clone(room)
	if got := Join(room[1:3]); got != "b\\,,c\\\\" {
		t.Errorf("%q", got)
	}
	if !slices.Equal(room, was) {
		t.Errorf("%q is %q", was, room)
	}
}

// P16.3
func TestSplit(t *testing.T) {
	splits(t, "a", "a")
	splits(t, "a,b", "a", "b")
	splits(t, "home\\, garden,work\\; desk,C:\\\\,two\\nrows\\N", "home, garden", "work; desk", "C:\\", "two\nrows\n")
	splits(t, "b,a,a,c", "b", "a", "a", "c")
	splits(t, " a , b ", " a ", " b ")
	splits(t, "\n,\r,\"x,y\"", "\n", "\r", "\"x", "y\"")
	splits(t, "\xe2\x82\xac,\xff,\xc3,\xa9", "\xe2\x82\xac", "\xff", "\xc3", "\xa9")
}

// P16.3: there is one part more than there are commas.
func TestSplitPartsWithoutBytes(t *testing.T) {
	splits(t, "", "")
	splits(t, ",", "", "")
	splits(t, ",,", "", "", "")
	splits(t, ",a", "", "a")
	splits(t, "a,", "a", "")
	splits(t, ",a,", "", "a", "")
	splits(t, ",,a,,,b,,", "", "", "a", "", "", "b", "", "")
	for n := range 100 {
		splits(t, strings.Repeat(",", n), make([]string, n+1)...)
		splits(t, strings.Repeat("a,", n)+"a", strings.Split(strings.Repeat("a", n+1), "")...)
	}
}

// P16.3
func TestSplitCommasWithABackslash(t *testing.T) {
	splits(t, "\\,", ",")
	splits(t, "\\,\\,", ",,")
	splits(t, "\\,,", ",", "")
	splits(t, ",\\,", "", ",")
	splits(t, "\\,,\\,", ",", ",")
	splits(t, "a\\,b,c", "a,b", "c")
	splits(t, "a,b\\,c", "a", "b,c")
	splits(t, "\\n,\\;,\\N", "\n", ";", "\n")
}

// P16.3: of two backslashes ahead of a comma none is its own.
func TestSplitCommasBehindTwoBackslashes(t *testing.T) {
	splits(t, "\\\\,", "\\", "")
	splits(t, "\\\\,a", "\\", "a")
	splits(t, "a\\\\,b", "a\\", "b")
	splits(t, "a\\\\\\,b", "a\\,b")
	splits(t, "a\\\\\\\\,b", "a\\\\", "b")
	splits(t, "a\\\\\\\\\\,b", "a\\\\,b")
	splits(t, "\\\\,\\\\,\\\\", "\\", "\\", "\\")
	for n := range 20 {
		splits(t, strings.Repeat("\\", 2*n)+",n", strings.Repeat("\\", n), "n")
		splits(t, strings.Repeat("\\", 2*n+1)+",n", strings.Repeat("\\", n)+",n")
	}
}

// P16.3: a fault's place is the one in the whole value.
func TestSplitFaults(t *testing.T) {
	parted(t, ";", 0)
	parted(t, "\\", 0)
	parted(t, "\\a", 0)
	for _, c := range []struct {
		bad string
		at  int
	}{{";", 0}, {"x;", 1}, {";x", 0}, {"x;y", 1}, {"\\a", 0}, {"x\\:y", 1}, {"\\\\;", 2}, {"\\\\\\\n", 2}, {"\\,;", 2}, {"\xc3\xa9\\\xff", 2}} {
		parted(t, c.bad, c.at)
		parted(t, c.bad+",bc,de", c.at)
		parted(t, "ab,"+c.bad+",de", 3+c.at)
		parted(t, "ab,cd,"+c.bad, 6+c.at)
		parted(t, ",,"+c.bad+",", 2+c.at)
		parted(t, "a\\,b,\\n\\N,"+c.bad, 10+c.at)
		parted(t, "a,"+c.bad+",;,\\", 2+c.at)
		parted(t, c.bad+","+c.bad, c.at)
		for n := range 60 {
			parted(t, strings.Repeat("a,", n)+c.bad, 2*n+c.at)
			parted(t, strings.Repeat(",", n)+c.bad+strings.Repeat(",", n), n+c.at)
		}
	}
}

// P16.3: a backslash at the value's end, and one behind which a part's end would be.
func TestSplitBackslashAtTheEnd(t *testing.T) {
	parted(t, "a,\\", 2)
	parted(t, "a,b\\", 3)
	parted(t, ",\\\\\\", 3)
	parted(t, "a\\,\\", 3)
	splits(t, "a\\,", "a,")
	splits(t, "a,\\\\", "a", "\\")
	for i := range 256 {
		b := string([]byte{byte(i)})
		if strings.Contains("\\;,nN", b) {
			continue
		}
		parted(t, "a,\\"+b+",c", 2)
	}
}

// P16.3, rule 3: each list is new.
func TestSplitListsHaveNothingInCommon(t *testing.T) {
	one, _ := Split("a,b,c")
	two, _ := Split("a,b,c")
	one[0], one[2] = "x", "y"
	one = append(one[:1], "z", "z", "z")
	if !slices.Equal(two, []string{"a", "b", "c"}) {
		t.Errorf("%q", two)
	}
	splits(t, "a,b,c", "a", "b", "c")
	if !slices.Equal(one, []string{"x", "z", "z", "z"}) {
		t.Errorf("%q", one)
	}
}
