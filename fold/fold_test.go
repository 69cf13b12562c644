package fold

import (
	"slices"
	"strings"
	"testing"
)

// folds holds a text's rows against those that are handed in.
func folds(t *testing.T, text string, rows ...string) {
	t.Helper()
	want := strings.Join(rows, "\r\n") + "\r\n"
	if got := Fold(text); got != want {
		t.Errorf("Fold(%q): %q, not %q", text, got, want)
	}
	checkFold(t, text)
}

// fill is a text of so many bytes.
func fill(n int) string { return strings.Repeat("abcdefghi-", n/10+1)[:n] }

// P15.3
func TestFold(t *testing.T) {
	folds(t, "", "")
	folds(t, "a", "a")
	folds(t, "SUMMARY:a b", "SUMMARY:a b")
	folds(t, fill(200), fill(75), " "+fill(149)[75:], " "+fill(200)[149:])
}

// P15.3
func TestFoldAtTheEdges(t *testing.T) {
	s := fill(300)
	folds(t, s[:74], s[:74])
	folds(t, s[:75], s[:75])
	folds(t, s[:76], s[:75], " "+s[75:76])
	folds(t, s[:148], s[:75], " "+s[75:148])
	folds(t, s[:149], s[:75], " "+s[75:149])
	folds(t, s[:150], s[:75], " "+s[75:149], " "+s[149:150])
	folds(t, s[:223], s[:75], " "+s[75:149], " "+s[149:223])
	folds(t, s[:224], s[:75], " "+s[75:149], " "+s[149:223], " "+s[223:224])
}

// P15.3: no character is parted.
func TestFoldAcrossTheEdges(t *testing.T) {
	for _, c := range []string{"\xc3\xa9", "\xe2\x82\xac", "\xf0\x9f\x98\x80"} {
		for ahead := 1; ahead < len(c); ahead++ {
			first, next := fill(75-ahead), fill(74-ahead)
			folds(t, first+c+"z", first, " "+c+"z")
			folds(t, fill(75)+next+c+"z", fill(75), " "+next, " "+c+"z")
			folds(t, first+c+fill(74-len(c)-ahead)+c+"z", first, " "+c+fill(74-len(c)-ahead), " "+c+"z")
		}
		folds(t, fill(75)+c+"z", fill(75), " "+c+"z")
		folds(t, fill(149)+c+"z", fill(75), " "+fill(149)[75:], " "+c+"z")
		fits := fill(75 - len(c))
		folds(t, fits+c, fits+c)
		folds(t, fits+c+"z", fits+c, " z")
		fits = fill(74 - len(c))
		folds(t, fill(75)+fits+c, fill(75), " "+fits+c)
		folds(t, fill(75)+fits+c+"z", fill(75), " "+fits+c, " z")
	}
}

// P15.3: what stands in no character is parted byte by byte.
func TestFoldBadBytes(t *testing.T) {
	for _, bad := range []string{"\x80\x80\x80", "\xe2\x82z", "\xf0\x9f\x98", "\xed\xa0\x80", "\xff\xff\xff", "\xc3\xc3\xc3", "\xf4\x90\x80"} {
		for ahead := range 4 {
			first := fill(75 - ahead)
			folds(t, first+bad+"z", first+bad[:ahead], " "+bad[ahead:]+"z")
			next := fill(74 - ahead)
			folds(t, fill(75)+next+bad+"z", fill(75), " "+next+bad[:ahead], " "+bad[ahead:]+"z")
		}
	}
	folds(t, strings.Repeat("\x80", 160), strings.Repeat("\x80", 75), " "+strings.Repeat("\x80", 74), " "+strings.Repeat("\x80", 11))
}

// P15.3: lines' ends within a text count as bytes, and are left as they are.
func TestFoldTextsWithLineEnds(t *testing.T) {
	folds(t, "\r", "\r")
	folds(t, "\n", "\n")
	folds(t, "a\r\nb\n", "a\r\nb\n")
	folds(t, fill(74)+"\r\n"+"z", fill(74)+"\r", " \nz")
	folds(t, fill(75)+"\r\n", fill(75), " \r\n")
	folds(t, strings.Repeat("\n", 80), strings.Repeat("\n", 75), " \n\n\n\n\n")
	folds(t, strings.Repeat("a\n", 40), strings.Repeat("a\n", 37)+"a", " \na\na\n")
}

// P15.3: spaces are bytes as others are.
func TestFoldTextsWithSpaces(t *testing.T) {
	folds(t, " a", " a")
	folds(t, "\t", "\t")
	folds(t, fill(75)+" a", fill(75), "  a")
	folds(t, fill(74)+"  "+fill(73)+" b", fill(74)+" ", "  "+fill(73), "  b")
	folds(t, strings.Repeat(" ", 76), strings.Repeat(" ", 75), "  ")
}

// P15.3
func TestJoin(t *testing.T) {
	s := fill(160)
	for _, c := range []struct {
		texts []string
		want  string
	}{
		{nil, ""},
		{[]string{}, ""},
		{[]string{""}, "\r\n"},
		{[]string{"a"}, "a\r\n"},
		{[]string{"a", "b"}, "a\r\nb\r\n"},
		{[]string{"", "", ""}, "\r\n\r\n\r\n"},
		{[]string{"", "a", "", "b", ""}, "\r\na\r\n\r\nb\r\n\r\n"},
		{[]string{"a", "a"}, "a\r\na\r\n"},
		{[]string{"b", "a", " c"}, "b\r\na\r\n c\r\n"},
		{[]string{"x", s, "y", s[:76]}, "x\r\n" + s[:75] + "\r\n " + s[75:149] + "\r\n " + s[149:] + "\r\ny\r\n" + s[:75] + "\r\n " + s[75:76] + "\r\n"},
		{[]string{s[:75], s[:74]}, s[:75] + "\r\n" + s[:74] + "\r\n"},
	} {
		given := slices.Clone(c.texts)
		if got := Join(given); got != c.want {
			t.Errorf("Join(%q): %q, not %q", c.texts, got, c.want)
		}
		if !slices.Equal(given, c.texts) {
			t.Errorf("%q is %q", c.texts, given)
		}
	}
}

// P15.3: the list's spare room is not written to.
func TestJoinLeavesSpareRoom(t *testing.T) {
	room := []string{"a", "b", "c", "d"}
	if got := Join(room[1:2]); got != "b\r\n" || !slices.Equal(room, []string{"a", "b", "c", "d"}) {
		t.Errorf("%q, %q", got, room)
	}
}
