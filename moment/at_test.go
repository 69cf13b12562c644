package moment

import (
	"math"
	"math/rand"
	"testing"

	"errand/api"
)

// checkAt holds the value at a second against the chapter's words.
func checkAt(t *testing.T, kind uint8, sec int) {
	want, wantNo := Value{kind, sec}, plainCheck(kind, sec)
	switch wantNo {
	case api.ErrArg:
		// A second within a day is no wrong one: it is the day's.
		want, wantNo = Value{kind, sec / 86400 * 86400}, api.OK
	case api.ErrKind, api.ErrRange:
		want = Value{}
	}
	if v, no := At(kind, sec); v != want || no != wantNo {
		t.Helper()
		t.Fatalf("At(%d, %d): %v, %d, not %v, %d", kind, sec, v, no, want, wantNo)
	}
}

// checkSplit holds the parts of a value against the chapter's words.
func checkSplit(t *testing.T, v Value) {
	n, sec := 0, 0
	if plainCheck(v.Kind, v.Sec) == api.OK {
		n, sec = v.Sec/86400, v.Sec%86400
	}
	if gotN, gotSec := Split(v); gotN != n || gotSec != sec {
		t.Helper()
		t.Fatalf("Split(%v): %d, %d, not %d, %d", v, gotN, gotSec, n, sec)
	}
}

// P11.4
func TestAtEdges(t *testing.T) {
	for _, c := range []struct {
		kind uint8
		sec  int
		want Value
		no   api.Errno
	}{
		{UTC, 63004483800, Value{UTC, 63004483800}, api.OK},
		{Local, 63004483800, Value{Local, 63004483800}, api.OK},
		{Date, 63004483800, Value{Date, 729218 * 86400}, api.OK},
		{Date, 0, Value{Date, 0}, api.OK},
		{Local, 0, Value{Local, 0}, api.OK},
		{UTC, 0, Value{UTC, 0}, api.OK},
		{Date, 1, Value{Date, 0}, api.OK},
		{Date, 86399, Value{Date, 0}, api.OK},
		{Date, 86400, Value{Date, 86400}, api.OK},
		{Date, 86401, Value{Date, 86400}, api.OK},
		{Local, 86399, Value{Local, 86399}, api.OK},
		{UTC, 86401, Value{UTC, 86401}, api.OK},
		{Date, lastSec, Value{Date, lastSec - 86399}, api.OK},
		{Date, lastSec - 86399, Value{Date, lastSec - 86399}, api.OK},
		{Date, lastSec - 86400, Value{Date, lastSec - 2*86400 + 1}, api.OK},
		{Local, lastSec, Value{Local, lastSec}, api.OK},
		{UTC, lastSec, Value{UTC, lastSec}, api.OK},
		{Date, lastSec + 1, Value{}, api.ErrRange},
		{Local, lastSec + 1, Value{}, api.ErrRange},
		{UTC, lastSec + 1, Value{}, api.ErrRange},
		{Date, -1, Value{}, api.ErrRange},
		{Local, -1, Value{}, api.ErrRange},
		{UTC, -1, Value{}, api.ErrRange},
		{Date, math.MinInt, Value{}, api.ErrRange},
		{UTC, math.MinInt, Value{}, api.ErrRange},
		{Date, math.MaxInt, Value{}, api.ErrRange},
		{Local, math.MaxInt, Value{}, api.ErrRange},
		{None, 0, Value{}, api.ErrKind},
		{4, 0, Value{}, api.ErrKind},
		{255, 86400, Value{}, api.ErrKind},
		{None, -1, Value{}, api.ErrKind},
		{4, lastSec + 1, Value{}, api.ErrKind},
		{255, math.MinInt, Value{}, api.ErrKind},
		{255, math.MaxInt, Value{}, api.ErrKind},
	} {
		if v, no := At(c.kind, c.sec); v != c.want || no != c.no {
			t.Errorf("At(%d, %d): %v, %d, not %v, %d", c.kind, c.sec, v, no, c.want, c.no)
		}
	}
}

// P11.4
func TestSplitEdges(t *testing.T) {
	for _, c := range []struct {
		v      Value
		n, sec int
	}{
		{Value{UTC, 63004483800}, 729218, 48600},
		{Value{Local, 63004483800}, 729218, 48600},
		{Value{Date, 729218 * 86400}, 729218, 0},
		{Value{Date, 0}, 0, 0},
		{Value{Local, 0}, 0, 0},
		{Value{UTC, 1}, 0, 1},
		{Value{UTC, 86399}, 0, 86399},
		{Value{Local, 86400}, 1, 0},
		{Value{Date, 86400}, 1, 0},
		{Value{Local, 86401}, 1, 1},
		{Value{Date, lastSec - 86399}, lastDay, 0},
		{Value{Local, lastSec}, lastDay, 86399},
		{Value{UTC, lastSec}, lastDay, 86399},
		{Value{UTC, lastSec - 86400}, lastDay - 1, 86399},
		{Value{Date, 86401}, 0, 0},
		{Value{Date, 172799}, 0, 0},
		{Value{Date, lastSec}, 0, 0},
		{Value{Local, lastSec + 1}, 0, 0},
		{Value{UTC, lastSec + 86400}, 0, 0},
		{Value{UTC, -1}, 0, 0},
		{Value{Date, -86400}, 0, 0},
		{Value{None, 63004483800}, 0, 0},
		{Value{4, 63004483800}, 0, 0},
		{Value{255, 63004483800}, 0, 0},
		{Value{Local, math.MinInt}, 0, 0},
		{Value{Local, math.MaxInt}, 0, 0},
		{Value{}, 0, 0},
	} {
		if n, sec := Split(c.v); n != c.n || sec != c.sec {
			t.Errorf("Split(%v): %d, %d, not %d, %d", c.v, n, sec, c.n, c.sec)
		}
	}
}

// P11.4
func TestAtAndSplitOfEachKind(t *testing.T) {
	for kind := range 256 {
		for _, sec := range append(goodSecs(), oddInts...) {
			checkAt(t, uint8(kind), sec)
			checkSplit(t, Value{uint8(kind), sec})
		}
	}
}

// P11.4
func TestAtAndSplitAllSecondsOfADay(t *testing.T) {
	for _, n := range []int{0, 1, 729218, lastDay} {
		for sec := range 86400 {
			for _, kind := range kinds {
				checkAt(t, kind, n*86400+sec)
				checkSplit(t, Value{kind, n*86400 + sec})
			}
		}
	}
}

// P11.4
func TestAtAndSplitAllDays(t *testing.T) {
	for n := range lastDay + 1 {
		for _, sec := range []int{n * 86400, n*86400 + n%86400, n*86400 + 86399} {
			checkAt(t, Date, sec)
			checkAt(t, Local, sec)
			checkSplit(t, Value{Date, sec})
			checkSplit(t, Value{UTC, sec})
		}
	}
}

// P11.4
func TestAtAndSplitRandom(t *testing.T) {
	r := rand.New(rand.NewSource(1104))
	for range 300000 {
		v := randomValue(r)
		checkAt(t, v.Kind, v.Sec)
		checkSplit(t, v)
	}
}
