package span

import (
	"math"
	"math/rand"
	"testing"

	"errand/api"
)

// P12.3
func TestAddEdges(t *testing.T) {
	for _, c := range []struct {
		sec, n, want int
		no           api.Errno
	}{
		{0, 0, 0, api.OK}, {0, 1, 1, api.OK}, {0, -1, 0, api.ErrRange}, {1, -1, 0, api.OK}, {1, -2, 0, api.ErrRange}, {2, -1, 1, api.OK},
		{0, maxSpan, maxSpan, api.OK}, {0, -maxSpan, 0, api.ErrRange}, {0, maxSpan + 1, 0, api.ErrRange}, {0, -maxSpan - 1, 0, api.ErrRange},
		{1, maxSpan + 1, 0, api.ErrRange}, {maxSpan, -maxSpan, 0, api.OK}, {maxSpan - 1, -maxSpan, 0, api.ErrRange},
		{maxSpan + 1, -maxSpan - 1, 0, api.ErrRange}, {maxSpan + 1, -maxSpan, 1, api.OK}, {maxSpan + 2, -maxSpan - 1, 0, api.ErrRange},
		{lastSec, 0, lastSec, api.OK}, {lastSec, 1, 0, api.ErrRange}, {lastSec, -1, lastSec - 1, api.OK}, {lastSec - 1, 1, lastSec, api.OK},
		{lastSec - 1, 2, 0, api.ErrRange}, {lastSec, maxSpan, 0, api.ErrRange}, {lastSec, -maxSpan, lastSec - maxSpan, api.OK},
		{lastSec, maxSpan + 1, 0, api.ErrRange}, {lastSec, -maxSpan - 1, 0, api.ErrRange}, {lastSec - maxSpan, maxSpan, lastSec, api.OK},
		{lastSec - maxSpan + 1, maxSpan, 0, api.ErrRange}, {lastSec - maxSpan - 1, maxSpan, lastSec - 1, api.OK},
		{lastSec - maxSpan - 1, maxSpan + 1, 0, api.ErrRange}, {-1, 0, 0, api.ErrRange}, {-1, 1, 0, api.ErrRange}, {-1, 2, 0, api.ErrRange},
		{-1, maxSpan, 0, api.ErrRange}, {-86400, 86400, 0, api.ErrRange}, {lastSec + 1, 0, 0, api.ErrRange}, {lastSec + 1, -1, 0, api.ErrRange},
		{lastSec + 1, -2, 0, api.ErrRange}, {lastSec + 1, -maxSpan, 0, api.ErrRange}, {lastSec + maxSpan, -maxSpan, 0, api.ErrRange},
		{-maxSpan, maxSpan, 0, api.ErrRange}, {63004483800, 1314020, 63005797820, api.OK}, {63004483800, -604800, 63003879000, api.OK},
		{math.MinInt, 0, 0, api.ErrRange}, {math.MaxInt, 0, 0, api.ErrRange}, {0, math.MinInt, 0, api.ErrRange}, {0, math.MaxInt, 0, api.ErrRange},
		{math.MinInt, math.MinInt, 0, api.ErrRange}, {math.MaxInt, math.MaxInt, 0, api.ErrRange}, {math.MinInt, math.MaxInt, 0, api.ErrRange},
		{math.MaxInt, math.MinInt, 0, api.ErrRange}, {math.MaxInt, -maxSpan, 0, api.ErrRange}, {math.MaxInt, maxSpan, 0, api.ErrRange},
		{math.MinInt, maxSpan, 0, api.ErrRange}, {lastSec, math.MaxInt, 0, api.ErrRange}, {lastSec, math.MinInt, 0, api.ErrRange},
		{1, math.MinInt, 0, api.ErrRange}, {1, math.MaxInt, 0, api.ErrRange}, {math.MinInt, 1, 0, api.ErrRange}, {math.MaxInt, 1, 0, api.ErrRange},
	} {
		if sum, no := Add(c.sec, c.n); sum != c.want || no != c.no {
			t.Errorf("Add(%d, %d): %d, %d, not %d, %d", c.sec, c.n, sum, no, c.want, c.no)
		}
	}
}

// P12.3
func TestAddAllEdges(t *testing.T) {
	secs := []int{0, 1, 2, 86399, 86400, maxSpan - 1, maxSpan, maxSpan + 1, 63004483800, lastSec - maxSpan - 1, lastSec - maxSpan,
		lastSec - maxSpan + 1, lastSec - 86400, lastSec - 1, lastSec, lastSec + 1, lastSec + 2, lastSec + maxSpan, -1, -2, -86400, -maxSpan}
	secs = append(secs, oddInts...)
	spans := append(append(allSpans(), oddInts...), maxSpan+1, maxSpan+2, -maxSpan-1, -maxSpan-2, lastSec, -lastSec)
	for _, sec := range secs {
		for _, n := range append(spans, secs...) {
			checkAdd(t, sec, n)
		}
		for near := -3; near <= 3; near++ {
			checkAdd(t, sec, near-sec)
			checkAdd(t, sec, lastSec+near-sec)
			checkAdd(t, sec, maxSpan+near)
			checkAdd(t, sec, -maxSpan+near)
		}
	}
}

// P12.3
func TestAddRandom(t *testing.T) {
	r := rand.New(rand.NewSource(1203))
	for range 300000 {
		sec, n := r.Intn(lastSec+1), oftenSpan(r)
		switch r.Intn(6) {
		case 0:
			sec = oftenSpan(r)
		case 1:
			sec = lastSec - r.Intn(maxSpan+1)
		}
		checkAdd(t, sec, n)
		if sum, no := Add(sec, n); no == api.OK {
			if back, no := Add(sum, -n); back != sec || no != api.OK {
				t.Fatalf("Add(%d, %d): %d, %d, not back at %d", sum, -n, back, no, sec)
			}
		}
	}
}
