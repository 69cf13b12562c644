package slots

import (
	"math/rand"
	"slices"
	"testing"

	"errand/api"
	"errand/disk"
	"errand/sheaf"
)

// cutsOf are all lists of n cuts, of each of these numbers.
func cutsOf(n int, of []int) [][]int {
	lists := [][]int{nil}
	for range n {
		var longer [][]int
		for _, l := range lists {
			for _, c := range of {
				longer = append(longer, append(slices.Clone(l), c))
			}
		}
		lists = longer
	}
	return lists
}

// checkCrash holds what a crash left against what was there: the other slot is as it was, and what was saved is whole
// or not told. Whether it is told ahead of the flush hangs on the cuts alone; behind the flush it is sure to be.
func checkCrash(t *testing.T, was, after disk.State, slot int, saved Snap) {
	t.Helper()
	a, e := Load(was, 1-slot)
	b, f := Load(after, 1-slot)
	if a != b || e != f {
		t.Fatalf("slot %d, the other one: %v, %v, not %v, %v", slot, b, f, a, e)
	}
	size := Size(len(was.Sectors))
	for at := range was.Sectors {
		if (at < slot*size || at >= (slot+1)*size) && was.Sectors[at] != after.Sectors[at] {
			t.Fatalf("slot %d: the sector %d outside is another one", slot, at)
		}
	}
	old, _ := Load(was, slot)
	got, e := Load(after, slot)
	if e != api.OK && got != (Snap{}) || e == api.OK && got != saved && got != old {
		t.Fatalf("slot %d: %v, %v: neither %v nor %v", slot, got, e, saved, old)
	}
}

// olds are disks of 16 sectors with what stood there ahead of a save, by what is in the slot and in the other one.
func olds(t *testing.T, slot int) map[string]disk.State {
	from, other := slot*4, 4-slot*4
	d := blank(16)
	short := with(d, from, sheetsOf(t, inSlot(3), 700, "old")...)
	long := with(d, from, sheetsOf(t, inSlot(3), 700, textOf(130))...)
	full := with(long, other, sheetsOf(t, inSlot(4), 0xFFF0, textOf(140))...)
	return map[string]disk.State{
		"blank":              d,
		"a short one":        short,
		"a long one":         long,
		"both":               full,
		"the other one":      with(d, other, sheetsOf(t, inSlot(4), 0xFFF0, "b")...),
		"torn, and both":     with(full, from, torn(0xFFFF, 700, "x"), torn(0xFF02, 701, "y")),
		"sheets all over":    with(full, 8, sheetsOf(t, someHead, 0xFFF8, textOf(260))...),
		"the same text once": with(d, from, sheetsOf(t, inSlot(3), 700, textOf(99))...),
	}
}

// The power goes at each put and at the flush of a save, and each write that waited goes with any beginning.
func TestTheOtherSlotStaysAndTheSavedOneIsWhole(t *testing.T) { // P6.7
	fewer := []int{0, 1, 4, 5, 6, 7, 20, 50, 58, 60, 63, 64}
	cuts := map[int][]int{2: append([]int{2, 3, 8, 33, 57, 59, 61, 62}, fewer...), 3: fewer, 4: {0, 5, 6, 33, 59, 63, 64}}
	for c := range 65 {
		cuts[1] = append(cuts[1], c)
	}
	for slot := range 2 {
		for _, was := range olds(t, slot) {
			for _, n := range []int{5, 40, 99, 140} {
				saved := Snap{Gen: 9, Text: textOf(n)}
				parts, top := sheaf.Count(n), Top(was)
				for fuse := range parts + 1 {
					left, _, e := Save(fused(was, fuse), slot, 9, top+1, saved.Text)
					if e != api.ErrDown {
						t.Fatalf("a fuse of %d: %v", fuse, e)
					}
					for _, l := range cutsOf(fuse, cuts[fuse]) {
						checkCrash(t, was, disk.Crash(left, l), slot, saved)
					}
				}
				left, _, e := Save(fused(was, parts+1), slot, 9, top+1, saved.Text)
				if e != api.OK {
					t.Fatalf("a fuse of %d: %v", parts+1, e)
				}
				after := disk.Crash(left, nil)
				checkCrash(t, was, after, slot, saved)
				checkBest(t, "saved, and crashed", after, slot, saved, api.OK)
			}
		}
	}
}

// cutAll are cuts of writes that wait, of which many are at the edges of a sheet.
func cutAll(r *rand.Rand, n int) []int {
	l := make([]int, n)
	for i := range l {
		l[i] = []int{0, r.Intn(7), r.Intn(65), 58 + r.Intn(7), 64}[r.Intn(5)]
	}
	return l
}

// Crash upon crash: what a save left in part is saved over, by turns or again and again in the same slot.
func TestCrashUponCrash(t *testing.T) { // P6.7
	r := rand.New(rand.NewSource(6))
	told := map[api.Errno]int{}
	for range 400 {
		d := blank(16 + r.Intn(10))
		gen := 1 + r.Intn(300)
		for range 15 {
			slot, text := r.Intn(2), textOf(r.Intn(Room(len(d.Sectors))+1))
			stamp := Top(d) + 1 + r.Intn(300)
			left, _, _ := Save(fused(d, r.Intn(8)), slot, gen, stamp, text)
			after := disk.Crash(left, cutAll(r, len(left.Wait)))
			checkCrash(t, d, after, slot, Snap{Gen: gen, Text: text})
			_, e := Load(after, slot)
			told[e]++
			d, gen = after, gen+1+r.Intn(3)
		}
	}
	for _, e := range []api.Errno{api.OK, api.ErrNone, api.ErrCut, api.ErrState} {
		if told[e] < 50 {
			t.Errorf("only %d of the crashes left %v", told[e], e)
		}
	}
}
