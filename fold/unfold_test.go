package fold

import (
	"slices"
	"strings"
	"testing"

	"errand/api"
)

// row is a line of one row.
func row(text string, at int) Line { return Line{text, []Piece{{0, at}}} }

// P15.1
func TestUnfold(t *testing.T) {
	unfolds(t, "ab\r\ncd\r\n", row("ab", 0), row("cd", 4))
	unfolds(t, "BEGIN:VTODO\r\nSUMMARY:a\r\n  b\r\n\tc\r\nEND:VTODO\r\n",
		row("BEGIN:VTODO", 0), Line{"SUMMARY:a bc", []Piece{{0, 13}, {9, 25}, {11, 30}}}, row("END:VTODO", 33))
}

// P15.1
func TestUnfoldNothing(t *testing.T) {
	lines, err := Unfold("")
	if len(lines) != 0 || err != nil {
		t.Errorf("%v, %v", lines, err)
	}
}

// P15.1: what stands behind the last line's end is a row, if it is not empty.
func TestUnfoldTheLastRow(t *testing.T) {
	unfolds(t, "a", row("a", 0))
	unfolds(t, "a\n", row("a", 0))
	unfolds(t, "a\r\n", row("a", 0))
	unfolds(t, "a\nb", row("a", 0), row("b", 2))
	unfolds(t, "a\r\nb", row("a", 0), row("b", 3))
	unfolds(t, "a\r\nb\n", row("a", 0), row("b", 3))
	unfolds(t, "a\n b", Line{"ab", []Piece{{0, 0}, {1, 3}}})
	unfolds(t, "a\n b\r\n", Line{"ab", []Piece{{0, 0}, {1, 3}}})
	unfolds(t, "a\n ", Line{"a", []Piece{{0, 0}, {1, 3}}})
}

// P15.1
func TestUnfoldBothEnds(t *testing.T) {
	unfolds(t, "a\nb\r\nc\nd\r\n", row("a", 0), row("b", 2), row("c", 5), row("d", 7))
	unfolds(t, "a\n b\r\n\tc\n d\r\ne", Line{"abcd", []Piece{{0, 0}, {1, 3}, {2, 7}, {3, 10}}}, row("e", 13))
}

// P15.1
func TestUnfoldRowsWithoutBytes(t *testing.T) {
	unfolds(t, "\n", row("", 0))
	unfolds(t, "\r\n", row("", 0))
	unfolds(t, "\r\n\na\r\n", row("", 0), row("", 2), row("a", 3))
	unfolds(t, "a\r\n\r\n\nb", row("a", 0), row("", 3), row("", 5), row("b", 6))
	unfolds(t, "a\n\n\r\n", row("a", 0), row("", 2), row("", 3))
	unfolds(t, "\n\n\n", row("", 0), row("", 1), row("", 2))
}

// P15.1: a row that is a space or a tab alone puts no byte behind the line, but it has a piece.
func TestUnfoldRowsThatAreASpaceAlone(t *testing.T) {
	for _, blank := range []string{" ", "\t"} {
		unfolds(t, "a\r\n"+blank+"\r\nb", Line{"a", []Piece{{0, 0}, {1, 4}}}, row("b", 6))
		unfolds(t, "a\n"+blank+"\n"+blank+"\n"+blank+"c\n", Line{"ac", []Piece{{0, 0}, {1, 3}, {1, 5}, {1, 7}}})
		unfolds(t, "a\n"+blank, Line{"a", []Piece{{0, 0}, {1, 3}}})
	}
}

// P15.1: the first byte alone is nothing.
func TestUnfoldRowsThatGoOn(t *testing.T) {
	unfolds(t, "a\n  b\n\t\tc\n \td\n\t e \n", Line{"a b\tc\td e ", []Piece{{0, 0}, {1, 3}, {3, 7}, {5, 11}, {7, 15}}})
	unfolds(t, "ab\r\n c\r\n d\r\n e\r\n", Line{"abcde", []Piece{{0, 0}, {2, 5}, {3, 9}, {4, 13}}})
	unfolds(t, "a \n b\t\nc d\n", Line{"a b\t", []Piece{{0, 0}, {2, 4}}}, row("c d", 7))
}

// P15.1
func TestUnfoldBehindALineWithoutBytes(t *testing.T) {
	unfolds(t, "\n a", Line{"a", []Piece{{0, 0}, {0, 2}}})
	unfolds(t, "\r\n\r\n\tab\r\n", row("", 0), Line{"ab", []Piece{{0, 2}, {0, 5}}})
	unfolds(t, "a\n\n b\nc", row("a", 0), Line{"b", []Piece{{0, 2}, {0, 4}}}, row("c", 6))
	unfolds(t, "\n \n\t\n", Line{"", []Piece{{0, 0}, {0, 2}, {0, 4}}})
}

// P15.1: no other byte ends a row, or goes on.
func TestUnfoldEachByte(t *testing.T) {
	for n := range 256 {
		b := string([]byte{byte(n)})
		if strings.Contains("\r\n \t", b) {
			continue
		}
		unfolds(t, b, row(b, 0))
		unfolds(t, "a\r\n"+b+"c\r\nd"+b, row("a", 0), row(b+"c", 3), row("d"+b, 7))
		unfolds(t, "a\r\n "+b+"c\r\n", Line{"a" + b + "c", []Piece{{0, 0}, {1, 4}}})
		refuses(t, "a\r"+b+"\n", api.ErrForm, 1)
	}
}

// P15.1
func TestUnfoldAFirstRowThatGoesOn(t *testing.T) {
	for _, blank := range []string{" ", "\t"} {
		for _, s := range []string{"", "a", "\n", "\r\n", "a\r\nb\r\n", "\r", "a\rb", "a\r\nb\r", "\r\r\n", "\n \r", "\n\n"} {
			refuses(t, blank+s, api.ErrForm, 0)
		}
	}
}

// P15.1
func TestUnfoldBadCR(t *testing.T) {
	refuses(t, "\r", api.ErrForm, 0)
	refuses(t, "a\r", api.ErrForm, 1)
	refuses(t, "a\r\n\r", api.ErrForm, 3)
	refuses(t, "ab\rcd\r\n", api.ErrForm, 2)
	refuses(t, "\r a\r\n", api.ErrForm, 0)
	refuses(t, "a\r\r\n", api.ErrForm, 1)
	refuses(t, "a\r\n\r\r\n", api.ErrForm, 3)
	refuses(t, "a\n\rb\n", api.ErrForm, 2)
	refuses(t, "a\r\n b\rc\r\n", api.ErrForm, 5)
	refuses(t, "a\r\n b\r", api.ErrForm, 5)
	refuses(t, "a\r\n \r\r\n", api.ErrForm, 4)
	refuses(t, "a\r\n\t\r", api.ErrForm, 4)
}

// P15.1
func TestUnfoldTheFirstOfTwoFaults(t *testing.T) {
	refuses(t, "a\rb\rc", api.ErrForm, 1)
	refuses(t, "ab\r\ncd\re\r\nf\r", api.ErrForm, 6)
	refuses(t, "a\r\r\r\n", api.ErrForm, 1)
	refuses(t, " a\rb", api.ErrForm, 0)
	refuses(t, "\ta\r\nb\r", api.ErrForm, 0)
	refuses(t, "\r\r", api.ErrForm, 0)
}

// P15.1
func TestUnfoldLongTexts(t *testing.T) {
	long := strings.Repeat("a", 6000)
	unfolds(t, long, row(long, 0))
	unfolds(t, long[:5998]+"\r\n", row(long[:5998], 0))
	unfolds(t, long[:5998]+"\nb", row(long[:5998], 0), row("b", 5999))
	unfolds(t, long[:5997]+"\r\n ", Line{long[:5997], []Piece{{0, 0}, {5997, 6000}}})
	refuses(t, long[:5999]+"\r", api.ErrForm, 5999)
	refuses(t, " "+long[:5999], api.ErrForm, 0)
	for _, s := range []string{long + "a", long + "\n", long + "\r", long[:5999] + "\r\n", long[:5998] + "\r\na", " " + long, "\r" + long, "\t\r" + long,
		strings.Repeat("\n", 6001), strings.Repeat("\r", 6001), strings.Repeat(" ", 6001), strings.Repeat("a\r\n", 3000000)} {
		refuses(t, s, api.ErrLong, 6000)
	}
}

// P15.1: as many rows and lines as a text has room for.
func TestUnfoldManyRows(t *testing.T) {
	for _, s := range []string{strings.Repeat("\n", 6000), strings.Repeat("\r\n", 3000), strings.Repeat("a\n", 3000), "aa" + strings.Repeat("\n ", 2999),
		"ab" + strings.Repeat("\n c", 1999), "a" + strings.Repeat("\r\n\t", 1999), strings.Repeat("a\r\n b\r\n", 857)} {
		checkUnfold(t, s)
	}
}

// Rule 3: an answer is new memory, and its spare room, too; no two lists of one answer share any.
func TestUnfoldSharesNoMemory(t *testing.T) {
	const s = "a\r\n b\r\n c\r\nd\r\n e\r\nf\r\n"
	one, _ := Unfold(s)
	want := plainLines(s)
	for i := range one {
		p := one[i].Pieces
		p = p[:cap(p)]
		for k := range p {
			p[k] = Piece{-1, -1}
		}
		if !alike(one[i+1:], want[i+1:]) {
			t.Fatalf("%d changed, others are %v", i, one[i+1:])
		}
	}
	clear(slices.Delete(one, 0, 1))
	unfolds(t, s, want...)
}
