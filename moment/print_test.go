package moment

import (
	"math/rand"
	"testing"

	"errand/api"
)

// P11.3
func TestPrintEdges(t *testing.T) {
	for _, c := range []struct {
		v    Value
		want string
	}{
		{Value{UTC, 63004483800}, "19970714T133000Z"},
		{Value{Local, 63004483800}, "19970714T133000"},
		{Value{Date, 729218 * 86400}, "19970714"},
		{Value{Date, 0}, "00010101"},
		{Value{Local, 0}, "00010101T000000"},
		{Value{UTC, 0}, "00010101T000000Z"},
		{Value{UTC, 1}, "00010101T000001Z"},
		{Value{UTC, 59}, "00010101T000059Z"},
		{Value{UTC, 60}, "00010101T000100Z"},
		{Value{Local, 3599}, "00010101T005959"},
		{Value{Local, 3600}, "00010101T010000"},
		{Value{Local, 86399}, "00010101T235959"},
		{Value{Local, 86400}, "00010102T000000"},
		{Value{Date, 30 * 86400}, "00010131"},
		{Value{Date, 31 * 86400}, "00010201"},
		{Value{UTC, 31*86400 - 1}, "00010131T235959Z"},
		{Value{Date, 364 * 86400}, "00011231"},
		{Value{UTC, 365*86400 - 1}, "00011231T235959Z"},
		{Value{UTC, 365 * 86400}, "00020101T000000Z"},
		{Value{Date, 365 * 86400}, "00020101"},
		{Value{Date, 719162 * 86400}, "19700101"},
		{Value{Date, 730178 * 86400}, "20000229"},
		{Value{Date, 730179 * 86400}, "20000301"},
		{Value{Local, 730179*86400 - 1}, "20000229T235959"},
		{Value{Date, lastSec - 86399}, "99991231"},
		{Value{Local, lastSec}, "99991231T235959"},
		{Value{UTC, lastSec}, "99991231T235959Z"},
		{Value{UTC, lastSec - 86400}, "99991230T235959Z"},
	} {
		if s, no := Print(c.v); s != c.want || no != api.OK {
			t.Errorf("Print(%v): %q, %d, not %q", c.v, s, no, c.want)
		}
	}
}

// P11.3
func TestPrintRefuses(t *testing.T) {
	for kind := range 256 {
		for _, sec := range append(goodSecs(), oddInts...) {
			v := Value{uint8(kind), sec}
			s, no := Print(v)
			want := plainCheck(v.Kind, sec)
			if no != want || want != api.OK && s != "" || want == api.OK && s != plainText(v.Kind, sec) {
				t.Errorf("Print(%v): %q, %d, not %d", v, s, no, want)
			}
		}
	}
	for sec := 1; sec < 86400; sec++ {
		if s, no := Print(Value{Date, 729218*86400 + sec}); s != "" || no != api.ErrArg {
			t.Fatalf("a date, %d seconds behind its beginning: %q, %d", sec, s, no)
		}
	}
}

// P11.3
func TestPrintRandom(t *testing.T) {
	r := rand.New(rand.NewSource(1103))
	for range 200000 {
		v := randomValue(r)
		want, wantNo := "", plainCheck(v.Kind, v.Sec)
		if wantNo == api.OK {
			want = plainText(v.Kind, v.Sec)
		}
		if s, no := Print(v); s != want || no != wantNo {
			t.Fatalf("Print(%v): %q, %d, not %q, %d", v, s, no, want, wantNo)
		}
	}
}
