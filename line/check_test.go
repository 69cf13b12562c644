package line

import (
	"strings"
	"testing"

	"errand/api"
	"errand/param"
)

// checks holds what is told of a line against a number.
func checks(t *testing.T, want api.Errno, name, value string, params ...param.Param) {
	t.Helper()
	l := of(name, value, params...)
	if e := Check(l); e != want {
		t.Errorf("Check(%.200q): %d, not %d", l, e, want)
	}
	checkPrint(t, l)
}

// wrongParams are lists of parameters that may not be, each with its error.
func wrongParams() []struct {
	l []param.Param
	e api.Errno
} {
	x := one("X", "a")
	return []struct {
		l []param.Param
		e api.Errno
	}{
		{some(7), api.ErrMany},
		{[]param.Param{one("x", "a")}, api.ErrForm},
		{[]param.Param{one("", "a")}, api.ErrForm},
		{[]param.Param{x, {}}, api.ErrForm},
		{[]param.Param{one("X")}, api.ErrMany},
		{[]param.Param{one("X", make([]string, 7)...)}, api.ErrMany},
		{[]param.Param{one("X", strings.Repeat("a", 61))}, api.ErrLong},
		{[]param.Param{x, one("Y", "a", "\r")}, api.ErrText},
		{[]param.Param{one("X", "\xff")}, api.ErrText},
		{[]param.Param{x, x}, api.ErrTwice},
		{[]param.Param{x, one("Y", "a"), one("X", "b")}, api.ErrTwice},
	}
}

// P18.1
func TestCheck(t *testing.T) {
	checks(t, api.OK, "SUMMARY", "Milk")
	checks(t, api.OK, "SUMMARY", "Milk", one("LANGUAGE", "en"))
	checks(t, api.OK, "SUMMARY", "")
	checks(t, api.OK, "X", "a:b;c,d\"e^f\tg\\h=i j")
	checks(t, api.OK, "X", "", one("X", ""))
	checks(t, api.OK, "BEGIN", "vtodo")
	checks(t, api.OK, "X", "v", some(6)...)
	checks(t, api.OK, "X", "v", one("X", "a\nb", "c;d", "\"^"), one("Y", "e"))
	checks(t, api.ErrForm, "", "")
	if e := Check(Line{}); e != api.ErrForm {
		t.Errorf("the zero line: %d", e)
	}
}

// P18.1
func TestCheckNames(t *testing.T) {
	for s, want := range map[string]api.Errno{
		"X": api.OK, "X-A-9": api.OK, "0": api.OK, "-": api.OK, strings.Repeat("A", 24): api.OK,
		"": api.ErrForm, "x": api.ErrForm, "Summary": api.ErrForm, "SUMMARy": api.ErrForm, "X A": api.ErrForm, " X": api.ErrForm, "X:": api.ErrForm, "X;": api.ErrForm, "X_A": api.ErrForm, "X\n": api.ErrForm, "\xc3\x89": api.ErrForm,
		"X;Y=a": api.ErrForm, strings.Repeat("A", 25): api.ErrForm, strings.Repeat("A", 256+24): api.ErrForm, strings.Repeat("A", 1<<16+1): api.ErrForm,
	} {
		checks(t, want, s, "v")
		checks(t, want, s, "", one("X", "a"))
	}
	for i := range 256 {
		b := string([]byte{byte(i)})
		want := api.ErrForm
		if i < 128 && strings.Contains("ABCDEFGHIJKLMNOPQRSTUVWXYZ0123456789-", b) {
			want = api.OK
		}
		for _, s := range []string{b, b + "A", "A" + b, "AB" + b + "CD", strings.Repeat("A", 23) + b} {
			checks(t, want, s, "v")
		}
	}
}

// P18.1: each error of param.CheckAll.
func TestCheckParams(t *testing.T) {
	for n := range 7 {
		checks(t, api.OK, "X", "v", some(n)...)
	}
	for _, c := range wrongParams() {
		if e := param.CheckAll(c.l); e != c.e {
			t.Fatalf("CheckAll(%.200q): %d, not %d", c.l, e, c.e)
		}
		checks(t, c.e, "X", "v", c.l...)
		checks(t, c.e, "X", "", c.l...)
	}
}

// P18.1
func TestCheckLongValues(t *testing.T) {
	for n := range 201 {
		checks(t, api.OK, "X", fill(n))
		checks(t, api.OK, "X", fill(n), some(6)...)
	}
	for _, n := range []int{201, 202, 255, 256, 256 + 200, 1 << 16, 1<<16 + 200} {
		checks(t, api.ErrLong, "X", fill(n))
		checks(t, api.ErrLong, "X", fill(n), some(6)...)
	}
	checks(t, api.OK, "X", strings.Repeat("\xc3\xa9", 100))
	checks(t, api.ErrLong, "X", strings.Repeat("\xc3\xa9", 100)+"a")
	checks(t, api.ErrLong, "X", strings.Repeat("\xc3\xa9", 101))
	checks(t, api.OK, "X", strings.Repeat("\xf0\x9f\x98\x80", 50))
	checks(t, api.OK, strings.Repeat("X", 24), fill(200), some(6)...)
}

// P18.1: each byte at the beginning, in the middle and at the end.
func TestCheckBytesOfValues(t *testing.T) {
	for i := range 256 {
		b := string([]byte{byte(i)})
		want := api.OK
		if i < 32 && i != 9 || i >= 127 {
			want = api.ErrText
		}
		for _, v := range []string{b, b + "a", "a" + b, "ab" + b + "cd", b + b, fill(199) + b, b + fill(199)} {
			checks(t, want, "X", v)
			checks(t, want, "X", v, one("Y", "a"))
		}
	}
	for _, v := range []string{"\xc3\xa9", "a\xe2\x82\xac\xf0\x9f\x98\x80", "\xc2\x85", "\xef\xbf\xbd", "\t\t"} {
		checks(t, api.OK, "X", v)
	}
	for _, v := range []string{"\xc3", "\xe2\x82", "\xf0\x9f\x98", "\xed\xa0\x80", "\xc0\x80", "\xf4\x90\x80\x80", "a\r\n", "a\n", "\xef\xbf\xbd\xff", "\xc3:\xa9"} {
		checks(t, api.ErrText, "X", v)
	}
}

// P18.1: of several faults the first by the promise's order.
func TestCheckSeveralFaults(t *testing.T) {
	long, bad := fill(201), "a\x00"
	for _, v := range []string{"v", bad, long, long + bad, bad + long} {
		for _, c := range wrongParams() {
			checks(t, api.ErrForm, "x", v, c.l...)
			checks(t, api.ErrForm, "", v, c.l...)
			checks(t, api.ErrForm, strings.Repeat("X", 25), v, c.l...)
			checks(t, c.e, "X", v, c.l...)
		}
		checks(t, api.ErrForm, "x", v)
	}
	checks(t, api.ErrLong, "X", bad+long)
	checks(t, api.ErrLong, "X", long+bad)
	checks(t, api.ErrLong, "X", fill(200)+"\x00")
	checks(t, api.ErrText, "X", fill(199)+"\x00")
	checks(t, api.ErrLong, "X", "\xff"+fill(200))
}
