package utf

import (
	"math"
	"strings"
	"testing"
)

// P14.3
func TestCutAtEachPlace(t *testing.T) {
	for _, c := range []struct {
		s    string
		want []int // from 0 to the length, and one above
	}{
		{"", []int{0, 0}},
		{"a", []int{0, 1, 1}},
		{"abc", []int{0, 1, 2, 3, 3}},
		{"\xc3\xa9", []int{0, 0, 2, 2}},
		{"\xe2\x82\xac", []int{0, 0, 0, 3, 3}},
		{"\xf0\x9f\x98\x80", []int{0, 0, 0, 0, 4, 4}},
		{"\xef\xbf\xbd", []int{0, 0, 0, 3, 3}},
		{"a\xc3\xa9b", []int{0, 1, 1, 3, 4, 4}},
		{"a\xc3\xa9\xe2\x82\xac\xf0\x9f\x98\x80", []int{0, 1, 1, 3, 3, 3, 6, 6, 6, 6, 10, 10}},
		{"\xf0\x9f\x98\x80\xe2\x82\xac\xc3\xa9a", []int{0, 0, 0, 0, 4, 4, 4, 7, 7, 9, 10, 10}},
		{"\x80", []int{0, 1, 1}},
		{"\xff\xfe", []int{0, 1, 2, 2}},
		{"\xc3", []int{0, 1, 1}},
		{"\xe2\x82", []int{0, 1, 2, 2}},
		{"\xf0\x9f\x98", []int{0, 1, 2, 3, 3}},
		{"\xc3\xc3\xa9", []int{0, 1, 1, 3, 3}},
		{"\xf0\x9f\x98\xc3\xa9", []int{0, 1, 2, 3, 3, 5, 5}},
		{"\xc0\x80\xc2\x80", []int{0, 1, 2, 2, 4, 4}},
		{"\xe0\x9f\xbf\xe0\xa0\x80", []int{0, 1, 2, 3, 3, 3, 6, 6}},
		{"\xed\xa0\x80\xed\x9f\xbf", []int{0, 1, 2, 3, 3, 3, 6, 6}},
		{"\xf4\x90\x80\x80\xf4\x8f\xbf\xbf", []int{0, 1, 2, 3, 4, 4, 4, 4, 8, 8}},
		{"\xc3\xa9\xa9", []int{0, 0, 2, 3, 3}},
		{"\r\n\x00", []int{0, 1, 2, 3, 3}},
	} {
		for n, want := range c.want {
			if at := Cut(c.s, n); at != want {
				t.Errorf("Cut(%x, %d): %d, not %d", c.s, n, at, want)
			}
		}
	}
}

// P14.3
func TestCutAtOddInts(t *testing.T) {
	for _, s := range append(append([]string{"", "a\xc3\xa9\xff"}, good...), wrong...) {
		for _, n := range []int{-1, -2, -3, -1 << 31, -1 << 32, math.MinInt + 1, math.MinInt} {
			if at := Cut(s, n); at != 0 {
				t.Errorf("Cut(%x, %d): %d", s, n, at)
			}
		}
		for _, n := range []int{len(s), len(s) + 1, len(s) + 2, 1 << 31, 1 << 32, math.MaxInt - 1, math.MaxInt} {
			if at := Cut(s, n); at != len(s) {
				t.Errorf("Cut(%x, %d): %d", s, n, at)
			}
		}
		checkAll(t, s)
	}
}

// P14.3: a text that is longer than the widths of small ints.
func TestCutOfLongText(t *testing.T) {
	const times = 30000
	s := strings.Repeat("a\xc3\xa9\xe2\x82\xac\xff\xf0\x9f\x98\x80", times)
	whole := []int{0, 1, 1, 3, 3, 3, 6, 7, 7, 7, 7}
	for _, round := range []int{0, 1, 22, 23, 24, 2978, 2979, 5957, 5958, times - 1} {
		for i, want := range whole {
			if at := Cut(s, 11*round+i); at != 11*round+want {
				t.Errorf("at %d: %d, not %d", 11*round+i, at, 11*round+want)
			}
		}
	}
	if Len(s) != 5*times || Bad(s) != 6 || Bad(s[7:11]) != -1 || Cut(s, len(s)) != len(s) || Cut(s, len(s)-1) != len(s)-4 {
		t.Errorf("len %d, bad %d, cut %d", Len(s), Bad(s), Cut(s, len(s)-1))
	}
	clean := strings.Repeat("\xe2\x82\xac", 100000)
	asks(t, clean, -1, -1, 100000)
	asks(t, clean+"\x1f", -1, 300000, 100001)
	asks(t, clean+"\xe2\x82", 300000, 300000, 100002)
}

// P14.3: where a text is cut, both parts are gone through as the whole was.
func TestCutPartsTheText(t *testing.T) {
	for _, a := range good {
		for _, b := range append(append([]string{}, wrong...), good...) {
			s := a + b + a
			for n := range len(s) + 1 {
				at := Cut(s, n)
				if at > n || Cut(s, at) != at || Len(s[:at])+Len(s[at:]) != Len(s) {
					t.Fatalf("Cut(%x, %d): %d", s, n, at)
				}
			}
		}
	}
}
