package week

import (
	"math/rand"
	"sync"
	"testing"
)

func TestAllDays(t *testing.T) { // P10.1, P10.2, P10.3
	for wkst := range 7 {
		t.Run(names[wkst], func(t *testing.T) {
			t.Parallel()
			n := 0
			for _, s := range plainWeeks(wkst) {
				if s.number == 1 && (First(s.year, wkst) != s.begin || Weeks(s.year, wkst) != -s.back) {
					t.Fatalf("First and Weeks of %d: %d, %d, not %d, %d", s.year, First(s.year, wkst), Weeks(s.year, wkst), s.begin, -s.back)
				}
				for ; n >= s.begin && n < s.begin+7 && n <= lastDay; n++ {
					checkDay(t, n, wkst, s)
				}
			}
			if n != lastDay+1 {
				t.Errorf("the plain weeks end ahead of day %d", n)
			}
		})
	}
}

// The seven days of a week have one year and one number, and the next week has the next number, or is the next year's first.
func TestWeeksFollowOneAnother(t *testing.T) { // P10.1, P10.3
	for wkst := range 7 {
		t.Run(names[wkst], func(t *testing.T) {
			t.Parallel()
			year, number := Number(0, wkst)
			back := Back(0, wkst)
			for n := 1; n <= lastDay; n++ {
				y, k := Number(n, wkst)
				b := Back(n, wkst)
				same := y == year && k == number && b == back
				next := y == year && k == number+1 && b == back+1
				turn := y == year+1 && k == 1 && back == -1 && b <= -52 && number >= 52
				if begins := Begin(n, wkst) == n; begins && !next && !turn || !begins && !same {
					t.Fatalf("day %d: %d, %d, %d behind %d, %d, %d", n, y, k, b, year, number, back)
				}
				year, number, back = y, k, b
			}
		})
	}
}

// A week belongs to the year that has four of its days or more.
func TestWeekOfMostOfItsDays(t *testing.T) { // P10.3
	firsts := january()
	for wkst := range 7 {
		t.Run(names[wkst], func(t *testing.T) {
			t.Parallel()
			y := 1
			for n := 0; n <= lastDay; n++ {
				if n == firsts[y+1] {
					y++
				}
				begin, want := plainBegin(n, wkst), y
				if firsts[y]-begin >= 4 {
					want--
				}
				if begin+7-firsts[y+1] >= 4 {
					want++
				}
				if year, number := Number(n, wkst); year != want || number != (begin-First(want, wkst))/7+1 {
					t.Fatalf("Number(%d, %s): %d, %d, not of %d", n, names[wkst], year, number, want)
				}
			}
		})
	}
}

func TestFirstAndWeeksHoldTogether(t *testing.T) { // P10.2, P10.3
	for wkst := range 7 {
		for y := 0; y <= 10000; y++ {
			weeks := Weeks(y, wkst)
			if First(y, wkst)+7*weeks != First(y+1, wkst) {
				t.Fatalf("%d weeks from %d, not up to %d", weeks, First(y, wkst), First(y+1, wkst))
			}
			if first := First(y, wkst); first >= 0 && first <= lastDay {
				checkDay(t, first, wkst, shown{begin: first, year: y, number: 1, back: -weeks})
			}
		}
	}
}

// Any numbers: what is no day, year or wkst has noughts, and all else is what the plain calendar has.
func TestRandomNumbers(t *testing.T) { // P10.1, P10.2, P10.3
	r := rand.New(rand.NewSource(10))
	firsts := january()
	for range 200000 {
		wkst := r.Intn(11) - 2
		n, y := r.Intn(lastDay+2000)-1000, r.Intn(10020)-10
		if r.Intn(4) == 0 {
			wkst, n, y = wkst+r.Intn(3)<<(8*r.Intn(8)), int(r.Uint64()), int(r.Uint64())
		}
		right := wkst >= 0 && wkst <= 6
		if !right || n < 0 || n > lastDay {
			checkNoDay(t, n, wkst)
		} else if begin := plainBegin(n, wkst); Begin(n, wkst) != begin {
			t.Fatalf("Begin(%d, %d): %d, not %d", n, wkst, Begin(n, wkst), begin)
		}
		first, weeks := 0, 0
		if right && y >= 0 && y <= 10001 {
			first = plainBegin(firsts[y]+3, wkst)
		}
		if right && y >= 0 && y <= 10000 {
			weeks = (plainBegin(firsts[y+1]+3, wkst) - first) / 7
		}
		if First(y, wkst) != first || Weeks(y, wkst) != weeks {
			t.Fatalf("First and Weeks (%d, %d): %d, %d, not %d, %d", y, wkst, First(y, wkst), Weeks(y, wkst), first, weeks)
		}
	}
}

// What a call answers hangs on nothing that was asked ahead of it, or at the same time.
func TestAnswersHangOnArgumentsAlone(t *testing.T) { // rule 4
	var all sync.WaitGroup
	for wkst := range 7 {
		// Those of the years 1 to 9998, of which all days are there.
		weeks := plainWeeks(wkst)[54 : 9998*52]
		for worker := range 4 {
			all.Add(1)
			go func() {
				defer all.Done()
				r := rand.New(rand.NewSource(int64(worker)))
				for range 3000 {
					s := weeks[r.Intn(len(weeks))]
					n := s.begin + r.Intn(7)
					if y, number := Number(n, wkst); Begin(n, wkst) != s.begin || y != s.year || number != s.number || Back(n, wkst) != s.back {
						t.Errorf("day %d, %s: %d, %d", n, names[wkst], y, number)
					}
					Number(r.Int(), r.Int())
					First(r.Int(), wkst)
				}
			}()
		}
	}
	all.Wait()
}
