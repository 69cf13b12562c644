package fold

import (
	"math"
	"testing"
)

// places holds where each byte of a line is told to stand, and its end, against places that are written out.
func places(t *testing.T, l Line, want ...int) {
	t.Helper()
	if len(want) != len(l.Text)+1 {
		t.Fatalf("%d places of a text of %d bytes", len(want), len(l.Text))
	}
	for i, at := range want {
		if got := Place(l, i); got != at {
			t.Errorf("Place(%v, %d): %d, not %d", l, i, got, at)
		}
	}
	first, last := want[0], want[len(l.Text)]
	for _, n := range []int{-1, -2, -1 << 40, math.MinInt + 1, math.MinInt} {
		if got := Place(l, n); got != first {
			t.Errorf("Place(%v, %d): %d, not %d", l, n, got, first)
		}
	}
	for _, n := range []int{len(l.Text) + 1, len(l.Text) + 2, 1 << 40, math.MaxInt - 1, math.MaxInt} {
		if got := Place(l, n); got != last {
			t.Errorf("Place(%v, %d): %d, not %d", l, n, got, last)
		}
	}
	checkPlace(t, l)
}

// P15.2
func TestPlaceInOnePiece(t *testing.T) {
	places(t, Line{"abc", []Piece{{0, 0}}}, 0, 1, 2, 3)
	places(t, Line{"abc", []Piece{{0, 70}}}, 70, 71, 72, 73)
	places(t, Line{"", []Piece{{0, 5}}}, 5)
}

// P15.2
func TestPlaceInPieces(t *testing.T) {
	places(t, Line{"abcde", []Piece{{0, 10}, {2, 15}, {3, 20}}}, 10, 11, 15, 20, 21, 22)
	places(t, Line{"ab", []Piece{{0, 4}, {2, 9}}}, 4, 5, 9)
	places(t, Line{"ab", []Piece{{0, 4}, {1, 9}, {2, 13}}}, 4, 9, 13)
}

// P15.2: each byte of a text is told to stand where it stands.
func TestPlaceOfWhatWasUnfolded(t *testing.T) {
	for _, s := range []string{"abc", "a\r\nb", "ab\r\n cd\r\n\te\nf", "\n a\n\n b\nc\n \n d", "a\n \n\t\n b", "x\r\n  y\r\n \tz\r\n"} {
		lines, err := Unfold(s)
		if err != nil {
			t.Fatal(err)
		}
		for _, l := range lines {
			for i := range len(l.Text) {
				if at := Place(l, i); s[at] != l.Text[i] {
					t.Errorf("%q: byte %d of %q is told to stand at %d", s, i, l.Text, at)
				}
			}
		}
	}
	lines, _ := Unfold("ab\r\n \r\n\tc\r\n")
	places(t, lines[0], 0, 1, 8, 9)
	lines, _ = Unfold("ab\r\n \r\n")
	places(t, lines[0], 0, 1, 5)
}

// P15.2
func TestPlaceWithoutPieces(t *testing.T) {
	places(t, Line{}, 0)
	places(t, Line{"ab", nil}, 0, 0, 0)
	places(t, Line{"ab", []Piece{}}, 0, 0, 0)
}

// P15.2
func TestPlaceAheadOfAllPieces(t *testing.T) {
	places(t, Line{"abc", []Piece{{2, 7}}}, 0, 0, 7, 8)
	places(t, Line{"abc", []Piece{{4, 7}}}, 0, 0, 0, 0)
	places(t, Line{"abc", []Piece{{1 << 32, 7}, {math.MaxInt, 8}}}, 0, 0, 0, 0)
	places(t, Line{"abc", []Piece{{-1, 7}}}, 8, 9, 10, 11)
}

// P15.2
func TestPlaceInPiecesWithOneFrom(t *testing.T) {
	places(t, Line{"abc", []Piece{{0, 1}, {1, 20}, {1, 30}, {1, 10}}}, 1, 10, 11, 12)
	places(t, Line{"a", []Piece{{0, 9}, {0, 4}}}, 4, 5)
}

// P15.2: the last piece in the list, not the one with the greatest From.
func TestPlaceInPiecesOutOfOrder(t *testing.T) {
	places(t, Line{"abc", []Piece{{2, 50}, {0, 10}}}, 10, 11, 12, 13)
	places(t, Line{"abc", []Piece{{1, 50}, {3, 10}, {2, 90}}}, 0, 50, 90, 91)
	places(t, Line{"abc", []Piece{{0, 5}, {9, 6}, {1, 7}, {8, 9}}}, 5, 7, 8, 9)
	places(t, Line{"abc", []Piece{{1, 100}, {0, -7}}}, -7, -6, -5, -4)
}

// P15.2: whatever the numbers, a place is told.
func TestPlaceWithOddNumbers(t *testing.T) {
	for _, from := range oddInts {
		for _, at := range oddInts {
			checkPlace(t, Line{"ab", []Piece{{0, 5}, {from, at}}})
			checkPlace(t, Line{"ab", []Piece{{from, at}, {1, 5}}})
		}
	}
}
