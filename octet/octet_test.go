package octet

import (
	"bytes"
	"math"
	"strings"
	"testing"

	"errand/api"
)

// roomy is a list with spare room behind it, that is marked so that a write into it shows.
func roomy(s string) []byte {
	b := []byte(s + strings.Repeat("#", 70000))
	return b[:len(s)]
}

func checkUntouched(t *testing.T, b []byte, s string) {
	t.Helper()
	if string(b) != s {
		t.Errorf("the list became %q, it was %q", b, s)
	}
	for i, x := range b[:cap(b)][len(b):] {
		if i < 70000 && x != '#' {
			t.Fatalf("the spare room has changed at %d", i)
		}
	}
}

func TestPutLaysTheHighestByteFirst(t *testing.T) { // P1.1
	for _, x := range []struct {
		b        string
		width, n int
		want     string
	}{
		{"", 3, 258, "\x00\x01\x02"},
		{"ab", 1, 0, "ab\x00"},
		{"ab", 1, 255, "ab\xff"},
		{"", 2, 256, "\x01\x00"},
		{"", 2, 65535, "\xff\xff"},
		{"z", 4, 0x01020304, "z\x01\x02\x03\x04"},
		{"", 5, 1<<40 - 1, "\xff\xff\xff\xff\xff"},
		{"", 6, 0x010203040506, "\x01\x02\x03\x04\x05\x06"},
		{"", 7, 0, "\x00\x00\x00\x00\x00\x00\x00"},
		{"", 7, 0x01020304050607, "\x01\x02\x03\x04\x05\x06\x07"},
		{"\xff", 7, 1<<56 - 1, "\xff\xff\xff\xff\xff\xff\xff\xff"},
	} {
		b := roomy(x.b)
		l, e := Put(b, x.width, x.n)
		if e != api.OK || string(l) != x.want {
			t.Errorf("Put(%q, %d, %d): %q, %v", x.b, x.width, x.n, l, e)
		}
		checkUntouched(t, b, x.b)
	}
}

func TestPutRefuses(t *testing.T) { // P1.1
	for _, width := range []int{0, 8, 9, 64, -1, math.MinInt, math.MaxInt} {
		for _, n := range []int{0, 1, -1, math.MinInt, math.MaxInt} {
			if l, e := Put([]byte("ab"), width, n); e != api.ErrArg || l != nil {
				t.Errorf("Put(%d, %d): %q, %v", width, n, l, e)
			}
		}
	}
	for width := 1; width <= 7; width++ {
		end := 1 << (8 * width)
		if l, e := Put(nil, width, end-1); e != api.OK || len(l) != width {
			t.Errorf("Put(%d, %d): %q, %v", width, end-1, l, e)
		}
		for _, n := range []int{end, end + 1, -1, math.MinInt, math.MaxInt} {
			if l, e := Put([]byte("ab"), width, n); e != api.ErrRange || l != nil {
				t.Errorf("Put(%d, %d): %q, %v", width, n, l, e)
			}
		}
	}
}

func TestStrLaysTheLengthAhead(t *testing.T) { // P1.2
	long := strings.Repeat("0123456789abcde", 4369)
	if len(long) != 65535 {
		t.Fatal(len(long))
	}
	for _, x := range []struct{ b, s, want string }{
		{"", "ab", "\x00\x02ab"},
		{"", "", "\x00\x00"},
		{"xy", "", "xy\x00\x00"},
		{"xy", "\x00\xff\n", "xy\x00\x03\x00\xff\n"},
		{"", long[:255], "\x00\xff" + long[:255]},
		{"", long[:256], "\x01\x00" + long[:256]},
		{"", long[:65534], "\xff\xfe" + long[:65534]},
		{"x", long, "x\xff\xff" + long},
	} {
		b := roomy(x.b)
		l, e := Str(b, x.s)
		if e != api.OK || string(l) != x.want {
			t.Errorf("Str(%q, a text of %d): a list of %d, %v", x.b, len(x.s), len(l), e)
		}
		checkUntouched(t, b, x.b)
	}
}

func TestStrRefuses(t *testing.T) { // P1.2
	for _, n := range []int{65536, 65537, 131072} {
		b := roomy("ab")
		if l, e := Str(b, strings.Repeat("x", n)); e != api.ErrLong || l != nil {
			t.Errorf("Str of %d: a list of %d, %v", n, len(l), e)
		}
		checkUntouched(t, b, "ab")
	}
}

// Answers share nothing with the list ahead of them, nor with one another, be it bytes or spare room.
func TestAnswersAreNewLists(t *testing.T) { // P1.1, P1.2
	b := roomy("ab")
	lists := make([][]byte, 0, 4)
	for range 2 {
		p, _ := Put(b, 2, 7)
		s, _ := Str(b, "hey")
		lists = append(lists, p, s)
	}
	for i := range lists {
		all := lists[i][:cap(lists[i])]
		for k := range all {
			all[k] = byte('A' + i)
		}
	}
	checkUntouched(t, b, "ab")
	for i, l := range lists {
		if all := l[:cap(l)]; bytes.Count(all, []byte{byte('A' + i)}) != len(all) {
			t.Errorf("list %d shares its memory: %q", i, all)
		}
	}
}

func TestNew(t *testing.T) { // P1.3
	for _, s := range []string{"", "a", "\x00\xff"} {
		if c := New(s); c != (Cur{Text: s, At: 0, E: api.OK}) {
			t.Error(c)
		}
	}
}

func TestNumReads(t *testing.T) { // P1.3
	text := "\x01\x02\x03\x04\x05\x06\x07\xff\xff\xff\xff\xff\xff\xff"
	for _, x := range []struct{ at, width, n int }{
		{0, 1, 1},
		{1, 1, 2},
		{13, 1, 255},
		{0, 2, 0x0102},
		{6, 2, 0x07ff},
		{3, 3, 0x040506},
		{0, 4, 0x01020304},
		{0, 5, 0x0102030405},
		{0, 6, 0x010203040506},
		{0, 7, 0x01020304050607},
		{7, 7, 1<<56 - 1},
	} {
		c, n := Num(Cur{Text: text, At: x.at}, x.width)
		if n != x.n || c != (Cur{Text: text, At: x.at + x.width}) {
			t.Errorf("Num at %d of %d: %d, %v", x.at, x.width, n, c)
		}
	}
}

func TestNumRefuses(t *testing.T) { // P1.3
	for _, x := range []struct {
		c     Cur
		width int
		e     api.Errno
	}{
		{Cur{"abc", 0, api.OK}, 0, api.ErrArg},
		{Cur{"abcdefghi", 0, api.OK}, 8, api.ErrArg},
		{Cur{"abc", 0, api.OK}, 8, api.ErrArg},
		{Cur{"abc", 3, api.OK}, 0, api.ErrArg},
		{Cur{"abc", 1, api.OK}, -1, api.ErrArg},
		{Cur{"abc", 1, api.OK}, math.MinInt, api.ErrArg},
		{Cur{"abc", 1, api.OK}, math.MaxInt, api.ErrArg},
		{Cur{"abc", 4, api.OK}, 1, api.ErrArg},
		{Cur{"abc", -1, api.OK}, 1, api.ErrArg},
		{Cur{"abc", math.MinInt, api.OK}, 7, api.ErrArg},
		{Cur{"abc", math.MaxInt, api.OK}, 7, api.ErrArg},
		{Cur{"abc", 4, api.OK}, 0, api.ErrArg},
		{Cur{"", 0, api.OK}, 1, api.ErrCut},
		{Cur{"abc", 3, api.OK}, 1, api.ErrCut},
		{Cur{"abc", 2, api.OK}, 2, api.ErrCut},
		{Cur{"abcdef", 0, api.OK}, 7, api.ErrCut},
		{Cur{"abc", 0, api.ErrCut}, 1, api.ErrCut},
		{Cur{"abc", 0, api.ErrSum}, 0, api.ErrSum},
		{Cur{"abc", 9, api.ErrHeld}, 1, api.ErrHeld},
		{Cur{"abc", -9, api.Errno(-5)}, 8, api.Errno(-5)},
		{Cur{"abc", 0, api.Errno(99)}, 1, api.Errno(99)},
	} {
		c, n := Num(x.c, x.width)
		if n != 0 || c != (Cur{x.c.Text, x.c.At, x.e}) {
			t.Errorf("Num(%v, %d): %v, %d", x.c, x.width, c, n)
		}
	}
}

func TestTakeReads(t *testing.T) { // P1.4
	long := strings.Repeat("y", 65535)
	for _, x := range []struct {
		c    Cur
		want string
		at   int
	}{
		{New("\x00\x03hey"), "hey", 5},
		{New("\x00\x03heyday"), "hey", 5},
		{New("\x00\x00"), "", 2},
		{New("\x00\x00a"), "", 2},
		{Cur{Text: "ab\x00\x01c", At: 2}, "c", 5},
		{New("\x00\x02\x00\xff"), "\x00\xff", 4},
		{New("\x01\x00" + long[:256]), long[:256], 258},
		{New("\xff\xff" + long), long, 65537},
	} {
		c, s := Take(x.c)
		if s != x.want || c != (Cur{Text: x.c.Text, At: x.at}) {
			t.Errorf("Take at %d: a text of %d, at %d, %v", x.c.At, len(s), c.At, c.E)
		}
	}
}

func TestTakeRefuses(t *testing.T) { // P1.4
	for _, x := range []struct {
		c Cur
		e api.Errno
	}{
		{Cur{"", 0, api.OK}, api.ErrCut},
		{Cur{"\x00", 0, api.OK}, api.ErrCut},
		{Cur{"\x00\x01", 0, api.OK}, api.ErrCut},
		{Cur{"\x00\x03he", 0, api.OK}, api.ErrCut},
		{Cur{"\xff\xffhe", 0, api.OK}, api.ErrCut},
		{Cur{"ab\x00\x02c", 2, api.OK}, api.ErrCut},
		{Cur{"\x00\x01a", 3, api.OK}, api.ErrCut},
		{Cur{"\xff\xff" + strings.Repeat("y", 65534), 0, api.OK}, api.ErrCut},
		{Cur{"\x00\x01a", 4, api.OK}, api.ErrArg},
		{Cur{"\x00\x01a", -1, api.OK}, api.ErrArg},
		{Cur{"\x00\x01a", math.MaxInt, api.OK}, api.ErrArg},
		{Cur{"\x00\x01a", math.MinInt, api.OK}, api.ErrArg},
		{Cur{"\x00\x01a", 0, api.ErrRange}, api.ErrRange},
		{Cur{"\x00\x01a", -1, api.ErrCut}, api.ErrCut},
		{Cur{"\x00\x01a", 0, api.Errno(-1)}, api.Errno(-1)},
	} {
		c, s := Take(x.c)
		if s != "" || c != (Cur{x.c.Text, x.c.At, x.e}) {
			t.Errorf("Take at %d of a text of %d: %q, at %d, %v", x.c.At, len(x.c.Text), s, c.At, c.E)
		}
	}
}

func TestLeftAndEnd(t *testing.T) { // P1.5
	for _, x := range []struct {
		c    Cur
		left int
		end  api.Errno
	}{
		{Cur{"", 0, api.OK}, 0, api.OK},
		{Cur{"abc", 0, api.OK}, 3, api.ErrLong},
		{Cur{"abc", 2, api.OK}, 1, api.ErrLong},
		{Cur{"abc", 3, api.OK}, 0, api.OK},
		{Cur{"abc", 4, api.OK}, 0, api.ErrArg},
		{Cur{"abc", -1, api.OK}, 0, api.ErrArg},
		{Cur{"", math.MinInt, api.OK}, 0, api.ErrArg},
		{Cur{"", math.MaxInt, api.OK}, 0, api.ErrArg},
		{Cur{"abc", 0, api.ErrCut}, 0, api.ErrCut},
		{Cur{"abc", 3, api.ErrSum}, 0, api.ErrSum},
		{Cur{"abc", 4, api.ErrLong}, 0, api.ErrLong},
		{Cur{"abc", -1, api.Errno(-7)}, 0, api.Errno(-7)},
	} {
		if l, e := Left(x.c), End(x.c); l != x.left || e != x.end {
			t.Errorf("%v: %d left, %v", x.c, l, e)
		}
	}
}

// numberOf is some number that fits into width bytes; that of the last round is the greatest one.
func numberOf(width, round int) int {
	end := 1<<(8*width) - 1
	return end / (1 + (5-round)*41)
}

func TestWhatWasLaidIsRead(t *testing.T) { // P1.6
	texts := []string{"", "a", "\x00\x00", "errand", strings.Repeat("z", 65535)}
	var b []byte
	for round := 1; round <= 5; round++ {
		for width := 1; width <= 7; width++ {
			b = mustLay(t)(Put(b, width, numberOf(width, round)))
		}
		b = mustLay(t)(Str(b, texts[round-1]))
	}
	c := New(string(b))
	for round := 1; round <= 5; round++ {
		for width := 1; width <= 7; width++ {
			var n int
			if c, n = Num(c, width); n != numberOf(width, round) {
				t.Fatalf("round %d, width %d: %d", round, width, n)
			}
		}
		var s string
		if c, s = Take(c); s != texts[round-1] {
			t.Fatalf("round %d: a text of %d", round, len(s))
		}
		if (End(c) == api.OK) != (round == 5) {
			t.Fatalf("round %d: %v", round, End(c))
		}
	}
	if Left(c) != 0 {
		t.Errorf("%d left", Left(c))
	}
}

func mustLay(t *testing.T) func([]byte, api.Errno) []byte {
	return func(b []byte, e api.Errno) []byte {
		if e != api.OK {
			t.Fatal(e)
		}
		return b
	}
}

// Once a cursor has failed, it stays so, and tells its first error at the end.
func TestAFailureStays(t *testing.T) { // P1.3, P1.4, P1.5
	c, _ := Num(New("\x00\x01a"), 4)
	d, n := Num(c, 1)
	f, s := Take(d)
	if d != c || f != c || n != 0 || s != "" || End(f) != api.ErrCut {
		t.Error(c, d, f, n, s)
	}
}
