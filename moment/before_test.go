package moment

import (
	"math"
	"math/rand"
	"slices"
	"testing"

	"errand/api"
)

// P11.5
func TestBeforeEdges(t *testing.T) {
	for _, c := range []struct {
		a, b Value
		want bool
	}{
		{Value{UTC, 1}, Value{UTC, 2}, true},
		{Value{UTC, 2}, Value{UTC, 1}, false},
		{Value{UTC, 1}, Value{Date, 86400}, true},
		{Value{Date, 86400}, Value{UTC, 1}, false},
		{Value{Date, 0}, Value{Local, 0}, true},
		{Value{Local, 0}, Value{UTC, 0}, true},
		{Value{Date, 0}, Value{UTC, 0}, true},
		{Value{Local, 0}, Value{Date, 0}, false},
		{Value{UTC, 0}, Value{Local, 0}, false},
		{Value{UTC, 0}, Value{Date, 0}, false},
		{Value{Date, 86400}, Value{Date, 86400}, false},
		{Value{Local, 5}, Value{Local, 5}, false},
		{Value{UTC, lastSec}, Value{UTC, lastSec}, false},
		{Value{UTC, lastSec - 1}, Value{Local, lastSec}, true},
		{Value{Local, lastSec}, Value{UTC, lastSec - 1}, false},
		{Value{UTC, 86399}, Value{Date, 86400}, true},
		{Value{Local, 0}, Value{UTC, 1 << 32}, true},
		{Value{UTC, 1 << 32}, Value{Local, 0}, false},
		{Value{Local, 1<<32 + 1}, Value{Date, 2}, false},
	} {
		if before := Before(c.a, c.b); before != c.want {
			t.Errorf("Before(%v, %v): %t", c.a, c.b, before)
		}
	}
}

// P11.5
func TestBeforeOfNoValues(t *testing.T) {
	for _, c := range []struct {
		a, b Value
		want bool
	}{
		{Value{}, Value{}, false},
		{Value{}, Value{Date, 0}, true},
		{Value{Date, 0}, Value{}, false},
		{Value{None, 1}, Value{Date, 0}, false},
		{Value{UTC, 7}, Value{4, 7}, true},
		{Value{4, 7}, Value{UTC, 7}, false},
		{Value{4, 7}, Value{255, 7}, true},
		{Value{255, 7}, Value{4, 7}, false},
		{Value{127, 7}, Value{128, 7}, true},
		{Value{128, 7}, Value{127, 7}, false},
		{Value{255, 7}, Value{0, 8}, true},
		{Value{0, 8}, Value{255, 7}, false},
		{Value{Date, 1}, Value{Date, 2}, true},
		{Value{Date, 2}, Value{Local, 1}, false},
		{Value{UTC, -1}, Value{Date, 0}, true},
		{Value{Date, 0}, Value{UTC, -1}, false},
		{Value{UTC, lastSec}, Value{Date, lastSec + 1}, true},
		{Value{UTC, math.MinInt}, Value{Date, math.MaxInt}, true},
		{Value{Date, math.MaxInt}, Value{UTC, math.MinInt}, false},
		{Value{UTC, math.MinInt}, Value{UTC, math.MinInt}, false},
		{Value{Local, math.MaxInt}, Value{Local, math.MaxInt}, false},
		{Value{Local, math.MaxInt}, Value{UTC, math.MaxInt}, true},
		{Value{Local, math.MinInt}, Value{Local, 1}, true},
		{Value{Local, 1}, Value{Local, math.MinInt}, false},
	} {
		if before := Before(c.a, c.b); before != c.want {
			t.Errorf("Before(%v, %v): %t", c.a, c.b, before)
		}
	}
}

// P11.5
func TestBeforeOfAllKinds(t *testing.T) {
	for a := range 256 {
		for b := range 256 {
			same := Before(Value{uint8(a), 86400}, Value{uint8(b), 86400})
			less := Before(Value{uint8(a), 86399}, Value{uint8(b), 86400})
			more := Before(Value{uint8(a), 86401}, Value{uint8(b), 86400})
			if same != (a < b) || !less || more {
				t.Fatalf("kinds %d and %d: %t, %t, %t", a, b, same, less, more)
			}
		}
	}
}

// P11.5
func TestBeforeIsAnOrder(t *testing.T) {
	var l []Value
	for _, sec := range append(goodSecs(), oddInts...) {
		for _, kind := range []uint8{0, 1, 2, 3, 4, 127, 128, 255} {
			l = append(l, Value{kind, sec})
		}
	}
	for _, a := range l {
		for _, b := range l {
			if ahead, behind := Before(a, b), Before(b, a); ahead && behind || (ahead || behind) == (a == b) {
				t.Fatalf("%v and %v: %t, %t", a, b, ahead, behind)
			}
		}
	}
	slices.SortFunc(l, func(a, b Value) int {
		switch {
		case Before(a, b):
			return -1
		case Before(b, a):
			return 1
		}
		return 0
	})
	for i := 1; i < len(l); i++ {
		if a, b := l[i-1], l[i]; a.Sec > b.Sec || a.Sec == b.Sec && a.Kind > b.Kind {
			t.Fatalf("%v stands ahead of %v", a, b)
		}
	}
}

// P11.5
func TestBeforeRandom(t *testing.T) {
	r := rand.New(rand.NewSource(1105))
	for range 300000 {
		a, b := randomValue(r), randomValue(r)
		switch r.Intn(4) {
		case 0:
			b.Sec = a.Sec
		case 1:
			b = a
		}
		if before, want := Before(a, b), a.Sec < b.Sec || a.Sec == b.Sec && a.Kind < b.Kind; before != want {
			t.Fatalf("Before(%v, %v): %t", a, b, before)
		}
	}
}

// P11.3, P11.5
func TestBeforeIsTheOrderOfTexts(t *testing.T) {
	r := rand.New(rand.NewSource(1106))
	for range 200000 {
		kind := kinds[r.Intn(3)]
		a, _ := At(kind, r.Intn(lastSec+1))
		b, _ := At(kind, min(lastSec, max(0, a.Sec+r.Intn(1<<(1+r.Intn(38)))-1<<20)))
		first, no := Print(a)
		second, no2 := Print(b)
		if no != api.OK || no2 != api.OK || (first < second) != Before(a, b) || (second < first) != Before(b, a) {
			t.Fatalf("%v, %q and %v, %q", a, first, b, second)
		}
	}
}
