package journal_test

import (
	"math/rand"
	"slices"
	"testing"

	"errand/api"
	"errand/disk"
	"errand/journal"
	"errand/slots"
)

// cutsOf are all lists of n cuts, of each of these numbers.
func cutsOf(n int, of []int) [][]int {
	if n == 0 {
		return [][]int{nil}
	}
	var lists [][]int
	for _, l := range cutsOf(n-1, of) {
		for _, c := range of {
			lists = append(lists, append(slices.Clone(l), c))
		}
	}
	return lists
}

// olds are disks of 16 sectors with what stood in the journal ahead of the generation 9.
func olds() map[string]disk.State {
	saved, _, e := slots.Save(blank(16), 0, 8, 1, "all")
	if e != api.OK {
		panic(e)
	}
	ones := slices.Repeat([]string{"old"}, 8)
	return map[string]disk.State{
		"nothing":               saved,
		"one a sector":          laid(saved, 8, rowOf(8, 0, 0xFFF0, ones...)...),
		"longer ones":           laid(saved, 8, rowOf(8, 0, 0xFFF0, textOf(40), textOf(90), textOf(60))...),
		"one over all":          laid(saved, 8, rowOf(8, 0, 700, textOf(288))...),
		"the same texts":        laid(saved, 8, rowOf(8, 0, 700, "first", textOf(50), textOf(99))...),
		"one, and a torn one":   laid(saved, 8, recordOf(8, 0, 700, "x")[0], torn(recordOf(8, 1, 0xFFFE, "y")[0])),
		"numbers that go on":    laid(saved, 8, rowOf(8, 1, 700, ones...)...),
		"one of two older ones": laid(laid(saved, 8, rowOf(7, 0, 700, textOf(200))...), 8, rowOf(8, 0, 800, "x")...),
	}
}

// checkLeft holds what a crash left against what was there ahead of the put: all other records, and the last one whole,
// or not at all; none of another generation as one of this one, nor the other way round.
func checkLeft(t *testing.T, what string, was, after disk.State, ahead []string, last string, sure bool) {
	t.Helper()
	got, at, e := journal.Scan(after, 9)
	whole := append(slices.Clone(ahead), last)
	if e != api.OK || !slices.Equal(got, whole) && (sure || !slices.Equal(got, ahead)) {
		t.Fatalf("%s: %q, %v: not all of %q", what, got, e, whole)
	}
	if at != 8+journal.Need(got) {
		t.Fatalf("%s: the place %d of %d records", what, at, len(got))
	}
	old, _, _ := journal.Scan(was, 8)
	if left, _, _ := journal.Scan(after, 8); len(left) > len(old) || !slices.Equal(left, old[:len(left)]) {
		t.Fatalf("%s: of the generation ahead: %q, not of %q", what, left, old)
	}
	if !slices.Equal(was.Sectors[:8], after.Sectors[:8]) {
		t.Fatalf("%s: the slots are others", what)
	}
}

// putAll puts records of the generation 9, one behind the other, with stamps above all that stand there.
func putAll(t *testing.T, d disk.State, records []string) (disk.State, int, int) {
	t.Helper()
	at, stamp := 8, slots.Top(d)+1
	for no, text := range records {
		var e api.Errno
		if d, at, stamp, e = journal.Put(d, at, 9, no, stamp, text); e != api.OK {
			t.Fatalf("the record %d: %v", no, e)
		}
		checkScan(t, "put", d, 9, at, records[:no+1]...)
	}
	return d, at, stamp
}

// The power goes at each put and at the flush, and of each write that waited any beginning is left.
func TestTheLastRecordIsWholeOrNotAtAll(t *testing.T) { // P7.4
	few := []int{0, 1, 4, 5, 6, 7, 20, 50, 58, 60, 63, 64}
	cuts := map[int][]int{0: {0}, 2: append([]int{2, 3, 8, 17, 33, 57, 59, 61, 62}, few...), 3: few, 4: {0, 6, 33, 63, 64}}
	for c := range 65 {
		cuts[1] = append(cuts[1], c)
	}
	for name, old := range olds() {
		for _, ahead := range [][]string{nil, {"first"}, {"first", textOf(50), ""}, {textOf(50), ""}} {
			for _, size := range []int{0, 5, 40, 99, 140} {
				was, at, stamp := putAll(t, old, ahead)
				last, parts := textOf(size), journal.Need([]string{textOf(size)})
				for fuse := range parts + 1 {
					left, _, _, e := journal.Put(fused(was, fuse), at, 9, len(ahead), stamp, last)
					if e != api.ErrDown {
						t.Fatalf("%s, a fuse of %d: %v", name, fuse, e)
					}
					for _, l := range cutsOf(fuse, cuts[fuse]) {
						checkLeft(t, name, was, disk.Crash(left, l), ahead, last, false)
					}
				}
				left, _, _, e := journal.Put(fused(was, parts+1), at, 9, len(ahead), stamp, last)
				if e != api.OK {
					t.Fatalf("%s, a fuse of %d: %v", name, parts+1, e)
				}
				checkLeft(t, name, was, disk.Crash(left, nil), ahead, last, true)
			}
		}
	}
}

// Where all of each write is left, though it was not flushed, the record is there; where nothing is, it is not.
func TestWhatIsLeftTellsWhetherTheRecordIs(t *testing.T) { // P7.4
	for name, old := range olds() {
		was, at, stamp := putAll(t, old, []string{"first"})
		left, _, _, _ := journal.Put(fused(was, 3), at, 9, 1, stamp, textOf(99))
		all, none := disk.Crash(left, []int{64, 64, 64}), disk.Crash(left, nil)
		checkScan(t, name+", all is left", all, 9, at+3, "first", textOf(99))
		checkScan(t, name+", nothing is left", none, 9, at, "first")
		for k := range 3 {
			cuts := []int{64, 64, 64}
			cuts[k] = 0
			checkScan(t, name+", all but one are left", disk.Crash(left, cuts), 9, at, "first")
		}
	}
}

// someCuts are cuts of writes that wait, of which many are at the edges of a sheet.
func someCuts(r *rand.Rand, n int) []int {
	l := make([]int, n)
	for i := range l {
		l[i] = []int{0, r.Intn(7), r.Intn(65), 58 + r.Intn(7), 64, 64}[r.Intn(6)]
	}
	return l
}

// Crash upon crash: where a scan ends it goes on, in the same generation or from the beginning on in the next one.
func TestCrashUponCrash(t *testing.T) { // P7.4
	r := rand.New(rand.NewSource(7))
	whole, gone, sure := 0, 0, 0
	for range 300 {
		n := 16 + r.Intn(12)
		d, gen, at := blank(n), 1+r.Intn(300), slots.Begin(n)
		var told []string
		for range 30 {
			text := textOf(r.Intn(150))
			left, _, _, e := journal.Put(fused(d, r.Intn(8)), at, gen, len(told), slots.Top(d)+1+r.Intn(300), text)
			d = disk.Crash(left, someCuts(r, len(left.Wait)))
			got, place, f := journal.Scan(d, gen)
			switch more := append(slices.Clone(told), text); {
			case f == api.OK && e != api.OK && e != api.ErrFull && slices.Equal(got, told):
				gone++
			case f == api.OK && e == api.ErrFull && slices.Equal(got, told):
				gen, place, got = gen+1, slots.Begin(n), nil
			case f == api.OK && e == api.OK && slices.Equal(got, more):
				sure++
			case f == api.OK && e == api.ErrDown && slices.Equal(got, more):
				whole++
			default:
				t.Fatalf("put %q behind %q, %v: %q, %v", text, told, e, got, f)
			}
			if place != slots.Begin(n)+journal.Need(got) {
				t.Fatalf("the place %d of %d records", place, len(got))
			}
			at, told = place, got
		}
	}
	if whole < 100 || gone < 100 || sure < 100 {
		t.Errorf("only %d were whole, %d gone, and %d sure", whole, gone, sure)
	}
}
