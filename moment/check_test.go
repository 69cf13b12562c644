package moment

import (
	"math"
	"math/rand"
	"testing"

	"errand/api"
)

// P11.1
func TestCheckEdges(t *testing.T) {
	for _, c := range []struct {
		kind uint8
		sec  int
		want api.Errno
	}{
		{Date, 0, api.OK}, {Local, 0, api.OK}, {UTC, 0, api.OK},
		{Date, lastSec, api.ErrArg}, {Local, lastSec, api.OK}, {UTC, lastSec, api.OK},
		{Date, lastSec - 86399, api.OK}, {Date, lastSec - 86398, api.ErrArg}, {Date, lastSec - 86400, api.ErrArg},
		{Date, -1, api.ErrRange}, {Local, -1, api.ErrRange}, {UTC, -1, api.ErrRange},
		{Date, -86400, api.ErrRange}, {Local, -86400, api.ErrRange}, {UTC, -86400, api.ErrRange},
		{Date, lastSec + 1, api.ErrRange}, {Local, lastSec + 1, api.ErrRange}, {UTC, lastSec + 1, api.ErrRange},
		{Date, lastSec + 2, api.ErrRange}, {Local, lastSec + 2, api.ErrRange}, {UTC, lastSec + 2, api.ErrRange},
		{Date, 1, api.ErrArg}, {Local, 1, api.OK}, {UTC, 1, api.OK},
		{Date, 86399, api.ErrArg}, {Date, 86400, api.OK}, {Date, 86401, api.ErrArg},
		{Date, 3600, api.ErrArg}, {Date, 43200, api.ErrArg}, {Date, 60, api.ErrArg},
		{Local, 86399, api.OK}, {Local, 86400, api.OK}, {UTC, 86399, api.OK}, {UTC, 86401, api.OK},
		{Date, math.MinInt, api.ErrRange}, {Local, math.MinInt, api.ErrRange}, {UTC, math.MinInt, api.ErrRange},
		{Date, math.MaxInt, api.ErrRange}, {Local, math.MaxInt, api.ErrRange}, {UTC, math.MaxInt, api.ErrRange},
		{None, 0, api.ErrKind}, {4, 0, api.ErrKind}, {255, 0, api.ErrKind},
		{None, lastSec, api.ErrKind}, {4, lastSec, api.ErrKind}, {255, lastSec, api.ErrKind},
	} {
		if no := Check(Value{c.kind, c.sec}); no != c.want {
			t.Errorf("Check(%d, %d): %d, not %d", c.kind, c.sec, no, c.want)
		}
	}
	if api.MaxSec != lastSec || api.MaxDay != lastDay {
		t.Error("the limits are others")
	}
}

// P11.1
func TestCheckTellsTheKindFirst(t *testing.T) {
	for kind := range 256 {
		if kind >= 1 && kind <= 3 {
			continue
		}
		for _, sec := range append(goodSecs(), oddInts...) {
			if no := Check(Value{uint8(kind), sec}); no != api.ErrKind {
				t.Errorf("Check(%d, %d): %d", kind, sec, no)
			}
		}
	}
}

// P11.1
func TestCheckTellsTheRangeAheadOfTheDay(t *testing.T) {
	for _, kind := range kinds {
		for _, sec := range oddInts {
			if no := Check(Value{kind, sec}); no != api.ErrRange {
				t.Errorf("Check(%d, %d): %d", kind, sec, no)
			}
		}
		for i := 1; i <= 90000; i++ {
			before, behind := Check(Value{kind, -i}), Check(Value{kind, lastSec + i})
			if before != api.ErrRange || behind != api.ErrRange {
				t.Fatalf("kind %d, %d seconds beyond: %d, %d", kind, i, before, behind)
			}
		}
	}
}

// P11.1
func TestCheckDatesOfAllDays(t *testing.T) {
	for n := range lastDay + 1 {
		sec := n * 86400
		if no := Check(Value{Date, sec}); no != api.OK {
			t.Fatalf("day %d: %d", n, no)
		}
		if no := Check(Value{Date, sec + 1}); no != api.ErrArg {
			t.Fatalf("day %d, its next second: %d", n, no)
		}
		if no := Check(Value{Date, sec - 1}); n > 0 && no != api.ErrArg {
			t.Fatalf("day %d, the second ahead of it: %d", n, no)
		}
		if local, utc := Check(Value{Local, sec + n%86400}), Check(Value{UTC, sec + n*7%86400}); local != api.OK || utc != api.OK {
			t.Fatalf("day %d, within it: %d, %d", n, local, utc)
		}
	}
}

// P11.1
func TestCheckAllSecondsOfADay(t *testing.T) {
	for _, n := range []int{0, 1, 729218, lastDay} {
		for sec := range 86400 {
			for _, kind := range kinds {
				v := Value{kind, n*86400 + sec}
				if no, want := Check(v), plainCheck(kind, v.Sec); no != want {
					t.Fatalf("Check(%v): %d, not %d", v, no, want)
				}
			}
		}
	}
}

// P11.1
func TestCheckRandom(t *testing.T) {
	r := rand.New(rand.NewSource(1101))
	for range 300000 {
		v := randomValue(r)
		if no, want := Check(v), plainCheck(v.Kind, v.Sec); no != want {
			t.Fatalf("Check(%v): %d, not %d", v, no, want)
		}
	}
}

// randomValue is a value of any kind, within all seconds, around their ends, or anywhere.
func randomValue(r *rand.Rand) Value {
	kind := uint8(r.Intn(5))
	if r.Intn(8) == 0 {
		kind = uint8(r.Intn(256))
	}
	switch r.Intn(6) {
	case 0:
		return Value{kind, int(r.Uint64())}
	case 1:
		return Value{kind, int(r.Uint64()) >> r.Intn(64)}
	case 2:
		return Value{kind, r.Intn(lastDay+1) * 86400}
	case 3:
		return Value{kind, r.Intn(200000) - 100000 + r.Intn(2)*lastSec}
	}
	return Value{kind, r.Intn(lastSec + 1)}
}
