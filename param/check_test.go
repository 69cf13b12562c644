package param

import (
	"slices"
	"strings"
	"testing"

	"errand/api"
)

// checks holds what is told of a parameter against a number.
func checks(t *testing.T, want api.Errno, name string, vals ...string) {
	t.Helper()
	p := one(name, vals...)
	if e := Check(p); e != want {
		t.Errorf("Check(%q): %d, not %d", p, e, want)
	}
	if e := CheckAll([]Param{p}); e != want {
		t.Errorf("CheckAll of %q alone: %d, not %d", p, e, want)
	}
	checkPrint(t, []Param{p})
}

// checksAll holds what is told of parameters against a number.
func checksAll(t *testing.T, want api.Errno, l ...Param) {
	t.Helper()
	if e := CheckAll(l); e != want {
		t.Errorf("CheckAll(%q): %d, not %d", l, e, want)
	}
	checkPrint(t, l)
}

// P17.1
func TestName(t *testing.T) {
	for s, want := range map[string]bool{
		"": false, "X": true, "LANGUAGE": true, "X-A-9": true, "0": true, "-": true, "--": true, "9A": true, "-X": true, "X-": true,
		"x": false, "Language": false, "LANGUAGe": false, "X A": false, "X=": false, ";X": false, "X_A": false, "X\n": false, "\x00": false, "\xc3\x89": false, "X\xff": false,
		strings.Repeat("A", 23): true, strings.Repeat("A", 24): true, strings.Repeat("A", 25): false, strings.Repeat("-", 24): true, strings.Repeat("9", 25): false,
		strings.Repeat("A", 23) + "a": false, strings.Repeat("A", 256+24): false, strings.Repeat("A", 1<<16+1): false,
	} {
		if Name(s) != want {
			t.Errorf("Name(%.40q): %t", s, !want)
		}
	}
}

// P17.1: each byte alone, and at the beginning, in the middle and at the end.
func TestNameOfEachByte(t *testing.T) {
	const may = "ABCDEFGHIJKLMNOPQRSTUVWXYZ0123456789-"
	for i := range 256 {
		b := string([]byte{byte(i)})
		want := strings.Contains(may, b) && i < 128
		for _, s := range []string{b, b + "A", "A" + b, "AB" + b + "CD", b + b, strings.Repeat("A", 23) + b, b + strings.Repeat("A", 23)} {
			if Name(s) != want {
				t.Errorf("Name(%q): %t", s, !want)
			}
		}
		if Name(strings.Repeat(b, 25)) {
			t.Errorf("25 of %q are a name", b)
		}
		if e := Check(one(b, "v")); want && e != api.OK || !want && e != api.ErrForm {
			t.Errorf("Check of the name %q: %d", b, e)
		}
	}
}

// P17.1
func TestCheck(t *testing.T) {
	checks(t, api.OK, "X", "a")
	checks(t, api.OK, "X", "")
	checks(t, api.OK, "X", "a", "a", "")
	checks(t, api.OK, strings.Repeat("X", 24), "a,b;c:d\"e^f g\\h=i")
	checks(t, api.ErrForm, "", "a")
	checks(t, api.ErrForm, "x", "a")
	checks(t, api.ErrForm, strings.Repeat("X", 25), "a")
}

// P17.1
func TestCheckHowManyValues(t *testing.T) {
	checks(t, api.ErrMany, "X")
	for _, l := range [][]string{nil, {}, make([]string, 0, 6)} {
		if e := Check(Param{"X", l}); e != api.ErrMany {
			t.Errorf("no values: %d", e)
		}
	}
	for n := 1; n <= 6; n++ {
		checks(t, api.OK, "X", times("a", n)...)
		checks(t, api.OK, "X", times("", n)...)
	}
	for _, n := range []int{7, 8, 256, 257, 258, 1 << 16, 1<<16 + 1} {
		checks(t, api.ErrMany, "X", times("a", n)...)
	}
}

// P17.1: a value's length is that of its bytes, as it is, not as it is written.
func TestCheckLongValues(t *testing.T) {
	for _, c := range []string{"a", "^", "\"", "\n", ",", "\t"} {
		checks(t, api.OK, "X", strings.Repeat(c, 59))
		checks(t, api.OK, "X", strings.Repeat(c, 60))
		checks(t, api.ErrLong, "X", strings.Repeat(c, 61))
		checks(t, api.ErrLong, "X", strings.Repeat(c, 256+60))
		checks(t, api.OK, "X", times(strings.Repeat(c, 60), 6)...)
		checks(t, api.ErrLong, "X", append(times(strings.Repeat(c, 60), 5), strings.Repeat(c, 61))...)
	}
	checks(t, api.OK, "X", strings.Repeat("\xc3\xa9", 30))
	checks(t, api.ErrLong, "X", strings.Repeat("\xc3\xa9", 30)+"a")
	checks(t, api.ErrLong, "X", strings.Repeat("\xc3\xa9", 31))
}

// P17.1: each byte at the beginning, in the middle and at the end.
func TestCheckBytesOfValues(t *testing.T) {
	for i := range 256 {
		b := string([]byte{byte(i)})
		want := api.OK
		if i < 32 && i != 9 && i != 10 || i == 127 || i >= 128 {
			want = api.ErrText
		}
		for _, v := range []string{b, b + "a", "a" + b, "ab" + b + "cd", b + b, "\n" + b + "\n"} {
			checks(t, want, "X", v)
			checks(t, want, "X", "a", v)
			checks(t, want, "X", v, "a")
		}
	}
	for _, v := range []string{"\xc3\xa9", "\xe2\x82\xac\n\xf0\x9f\x98\x80", "\xc2\x85", "\xef\xbf\xbd", "a\nb\nc\n", "\n\n"} {
		checks(t, api.OK, "X", v)
	}
	for _, v := range []string{"\xc3", "\xe2\x82", "\xf0\x9f\x98", "\xed\xa0\x80", "\xc0\x80", "\xf4\x90\x80\x80", "a\r\n", "\xef\xbf\xbd\xff"} {
		checks(t, api.ErrText, "X", v)
	}
}

// P17.1: LFs may be, but bytes on both sides of one are in no character.
func TestCheckCharactersThatLFsPart(t *testing.T) {
	for _, c := range []string{"\xc3\xa9", "\xe2\x82\xac", "\xf0\x9f\x98\x80"} {
		for i := 1; i < len(c); i++ {
			checks(t, api.ErrText, "X", c[:i]+"\n"+c[i:])
			checks(t, api.ErrText, "X", c[:i]+"\n\n"+c[i:])
			checks(t, api.ErrText, "X", c[:i], c[i:])
		}
		checks(t, api.OK, "X", c+"\n"+c)
	}
}

// P17.1: of several faults the first by the promise's order.
func TestCheckSeveralFaults(t *testing.T) {
	long, bad := strings.Repeat("a", 61), "a\x00"
	checks(t, api.ErrForm, "x")
	checks(t, api.ErrForm, "", times(long, 7)...)
	checks(t, api.ErrForm, "X\n", bad, long)
	checks(t, api.ErrMany, "X", times(long, 7)...)
	checks(t, api.ErrMany, "X", times(bad, 7)...)
	checks(t, api.ErrLong, "X", long+"\x00")
	checks(t, api.ErrLong, "X", "\x00"+long)
	checks(t, api.ErrLong, "X", "\xff"+long+"\r")
	checks(t, api.ErrLong, "X", long, bad)
	checks(t, api.ErrText, "X", bad, long)
	checks(t, api.ErrText, "X", "a", bad, long)
	checks(t, api.ErrLong, "X", "a", long, bad)
	checks(t, api.ErrText, "X", append(times("a", 5), bad)...)
}

// P17.1
func TestCheckAll(t *testing.T) {
	checksAll(t, api.OK)
	checksAll(t, api.OK, []Param{}...)
	for n := range 7 {
		checksAll(t, api.OK, some(n)...)
	}
	for n := 7; n < 20; n++ {
		checksAll(t, api.ErrMany, some(n)...)
	}
	checksAll(t, api.ErrMany, slices.Repeat(some(1), 256)...)
	checksAll(t, api.ErrMany, slices.Repeat(some(1), 1<<16+1)...)
}

// P17.1
func TestCheckAllNamesTwice(t *testing.T) {
	checksAll(t, api.ErrTwice, one("X", "a"), one("X", "b"))
	checksAll(t, api.ErrTwice, one("X", "a"), one("X", "a"))
	checksAll(t, api.ErrTwice, one("X", "a"), one("X", "b"), one("Y", "c"))
	checksAll(t, api.ErrTwice, one("Y", "a"), one("X", "b"), one("X", "c"))
	checksAll(t, api.ErrTwice, one("X", "a"), one("Y", "b"), one("X", "c"))
	for i := range 6 {
		for j := range i {
			l := some(6)
			l[i].Name = l[j].Name
			checksAll(t, api.ErrTwice, l...)
			checksAll(t, api.ErrMany, append(l, one("X", "a"))...)
			checksAll(t, api.ErrTwice, l[:i+1]...)
			checksAll(t, api.OK, l[:i]...)
		}
	}
	checksAll(t, api.OK, one("X", "a"), one("XX", "a"), one("X-", "a"), one("-X", "a"))
	checksAll(t, api.ErrForm, one("X", "a"), one("x", "b"))
}

// P17.1: a fault of one parameter is told ahead of names that are there twice.
func TestCheckAllSeveralFaults(t *testing.T) {
	long, bad := one("A", strings.Repeat("a", 61)), one("A", "\r")
	for _, c := range []struct {
		p Param
		e api.Errno
	}{{one("a", "b"), api.ErrForm}, {one(""), api.ErrForm}, {one("A"), api.ErrMany}, {one("A", times("a", 7)...), api.ErrMany}, {long, api.ErrLong}, {bad, api.ErrText}} {
		x, y := one("X", "a"), one("Y", "b")
		checksAll(t, c.e, c.p)
		checksAll(t, c.e, c.p, x, x)
		checksAll(t, c.e, x, c.p, x)
		checksAll(t, c.e, x, x, c.p)
		checksAll(t, c.e, x, c.p, y, y)
		checksAll(t, c.e, y, x, c.p)
		checksAll(t, c.e, c.p, c.p)
		checksAll(t, c.e, c.p, long, bad, one("a"))
		checksAll(t, api.ErrMany, append(some(6), c.p)...)
		checksAll(t, api.ErrMany, append([]Param{c.p}, some(6)...)...)
		checksAll(t, c.e, append(some(5), c.p)...)
	}
	checksAll(t, api.ErrText, bad, long)
	checksAll(t, api.ErrLong, long, bad)
	checksAll(t, api.ErrMany, append(some(6), one("PA", "v"))...)
}
