package journal_test

import (
	"math"
	"slices"
	"testing"

	"errand/api"
	"errand/journal"
)

func TestNeed(t *testing.T) { // P7.3
	most, over := textOf(16000), textOf(16001)
	for _, x := range []struct {
		what    string
		records []string
		want    int
	}{
		{"none", nil, 0},
		{"an empty list", []string{}, 0},
		{"an empty one", []string{""}, 1},
		{"three empty ones", []string{"", "", ""}, 3},
		{"29 bytes", []string{textOf(29)}, 1},
		{"30 bytes", []string{textOf(30)}, 2},
		{"66 and 67 bytes", []string{textOf(66), textOf(67)}, 5},
		{"the longest", []string{most}, 433},
		{"one byte more", []string{over}, 0},
		{"far more", []string{textOf(100000)}, 0},
		{"too long ones among others", []string{over, "a", over, most, "", over}, 435},
		{"the same twice", []string{"a", "a", textOf(30), textOf(30)}, 6},
		{"more than any disk has", slices.Repeat([]string{most}, 1000), 433000},
	} {
		if got := journal.Need(x.records); got != x.want {
			t.Errorf("%s: %d, not %d", x.what, got, x.want)
		}
	}
}

func TestNeedIsWhatPutTakes(t *testing.T) { // P7.1, P7.3
	d, at, stamp := blank(512), 256, 1
	var records []string
	for no, size := range []int{0, 29, 30, 500, 66, 67, 0, 1000, 2200, 4000} {
		var e api.Errno
		if d, at, stamp, e = journal.Put(d, at, 9, no, stamp, textOf(size)); e != api.OK {
			t.Fatalf("a record of %d bytes: %v", size, e)
		}
		records = append(records, textOf(size))
		if need := journal.Need(records); need != at-256 || need != stamp-1 {
			t.Errorf("%d records: %d, though the place is %d and the stamp %d", no+1, need, at, stamp)
		}
	}
}

func TestMost(t *testing.T) { // P7.3
	for _, x := range []struct{ n, want int }{
		{16, 288}, {17, 325}, {18, 362}, {19, 399}, {20, 362}, {23, 473}, {24, 436}, {100, 1842},
		{511, 9501}, {512, 9464},
		{15, 0}, {14, 0}, {8, 0}, {1, 0}, {0, 0}, {513, 0}, {514, 0}, {1024, 0}, {1<<32 + 16, 0},
		{-1, 0}, {-16, 0}, {-512, 0}, {math.MinInt, 0}, {math.MinInt + 16, 0}, {math.MaxInt - 1, 0}, {math.MaxInt, 0},
	} {
		if got := journal.Most(x.n); got != x.want {
			t.Errorf("%d sectors: %d, not %d", x.n, got, x.want)
		}
	}
}

func TestMostIsJustWhatFits(t *testing.T) { // P7.1, P7.3
	for n := 16; n <= 512; n++ {
		begin, most := n/4*2, journal.Most(n)
		if !journal.Fits(n, begin, most) || journal.Fits(n, begin, most+1) || journal.Fits(n, begin+1, most) {
			t.Errorf("%d sectors: a record of %d bytes", n, most)
		}
		if n < 30 || n > 510 {
			want := laid(blank(n), begin, recordOf(5, 0, 1, textOf(most))...)
			checkPut(t, "Most", call{blank(n), begin, 5, 0, 1, textOf(most)}, want, n, 1+n-begin, api.OK)
			checkRefused(t, "a byte more than Most", call{blank(n), begin, 5, 0, 1, textOf(most + 1)}, api.ErrFull)
		}
	}
}

func TestFits(t *testing.T) { // P7.3
	for _, x := range []struct {
		n, at, size int
		want        bool
	}{
		{16, 8, 0, true}, {16, 8, 288, true}, {16, 8, 289, false}, {16, 9, 251, true}, {16, 9, 252, false},
		{16, 14, 66, true}, {16, 14, 67, false}, {16, 15, 0, true}, {16, 15, 29, true}, {16, 15, 30, false},
		{16, 7, 0, false}, {16, 7, 29, false}, {16, 0, 0, false}, {16, -1, 0, false}, {16, math.MinInt, 0, false},
		{16, math.MinInt + 8, 0, false}, {16, math.MinInt + 16, 0, false}, {16, math.MinInt + 17, 0, false},
		{16, 16, 0, false}, {16, 17, 0, false}, {16, 16, -1, false}, {16, 17, -1, false}, {16, math.MaxInt, 0, false},
		{16, 8, -1, false}, {16, 8, math.MinInt, false}, {16, 8, math.MinInt + 1, false}, {16, 16, math.MinInt, false},
		{16, 8, 16000, false}, {16, 8, 16001, false}, {16, 8, math.MaxInt, false}, {16, math.MaxInt, math.MaxInt, false},
		{19, 8, 399, true}, {19, 8, 400, false}, {19, 7, 0, false}, {19, 18, 29, true}, {19, 19, 0, false},
		{20, 10, 362, true}, {20, 9, 0, false}, {20, 8, 0, false}, {20, 19, 0, true},
		{512, 256, 9464, true}, {512, 256, 9465, false}, {512, 255, 0, false}, {512, 511, 29, true}, {512, 511, 30, false},
		{512, 512, 0, false}, {512, 256, 16000, false}, {512, 256, 16001, false}, {512, 256, -1, false},
		{511, 254, 9501, true}, {511, 254, 9502, false}, {511, 253, 0, false},
		{15, 8, 0, false}, {15, 6, 0, false}, {15, 0, 0, false}, {0, 0, 0, false}, {0, -1, 0, false}, {-1, -2, 0, false},
		{513, 256, 0, false}, {513, 0, 0, false}, {513, 512, 0, false}, {1 << 20, 1 << 19, 0, false}, {1 << 20, 1 << 19, 16000, false},
		{math.MaxInt, 0, 0, false}, {math.MaxInt, math.MaxInt - 1, 0, false}, {math.MinInt, math.MinInt, 0, false},
		{math.MinInt, 1, 0, false}, {math.MinInt, math.MaxInt, 0, false}, {-16, -20, 0, false},
	} {
		if got := journal.Fits(x.n, x.at, x.size); got != x.want {
			t.Errorf("%d bytes at %d of %d: %v", x.size, x.at, x.n, got)
		}
	}
}

// A record fits where Put lays it on a disk with power, and nowhere else.
func TestFitsIsWhatPutTells(t *testing.T) { // P7.1, P7.3
	for _, n := range []int{16, 17, 19, 20, 22, 24} {
		d := blank(n)
		for at := -2; at <= n+2; at++ {
			for size := 0; size < 540; size += 1 + size%7 {
				_, _, _, e := journal.Put(d, at, 5, 0, 1, textOf(size))
				if journal.Fits(n, at, size) != (e == api.OK) {
					t.Errorf("%d bytes at %d of %d: %v, though Put tells %v", size, at, n, e != api.OK, e)
				}
			}
		}
	}
}

func TestTheExample(t *testing.T) { // P7.1, P7.2, P7.3
	if got := journal.Most(16); got != 288 {
		t.Errorf("Most: %d", got)
	}
	checkRefused(t, "sector 7", call{blank(16), 7, 5, 0, 1, "a"}, api.ErrArg)
	d, at, stamp, e := journal.Put(blank(16), 8, 5, 0, 1, "a")
	if at != 9 || stamp != 2 || e != api.OK {
		t.Errorf("sector 8: %d, %d, %v", at, stamp, e)
	}
	checkScan(t, "sector 8", d, 5, 9, "a")
}
