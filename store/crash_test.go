package store_test

import (
	"math/rand"
	"slices"
	"strings"
	"testing"

	"errand/api"
	"errand/disk"
	"errand/journal"
	"errand/sheaf"
	"errand/slots"
	"errand/store"
)

// held is what a store is to have: the text that was saved last, and the records behind it.
type held struct {
	text    string
	records []string
}

func (h held) with(record string) held { return held{h.text, append(slices.Clone(h.records), record)} }

func (h held) is(o held) bool { return h.text == o.text && slices.Equal(h.records, o.records) }

// checkHeld opens a disk, which is to have one of these, and tells which.
func checkHeld(t *testing.T, what string, d disk.State, may ...held) (store.State, int) {
	t.Helper()
	st, text, records, e := store.Open(d)
	i := slices.IndexFunc(may, held{text, records}.is)
	if e != api.OK || i < 0 {
		t.Fatalf("%s: %q, %q, %v: none of %q", what, text, records, e, may)
	}
	want := rest{slot: st.Slot, gen: st.Gen, stamp: slots.Top(d) + 1, at: slots.Begin(len(d.Sectors)) + journal.Need(records), no: len(records)}
	if !alike(st, stateOf(d, want)) {
		t.Fatalf("%s: %+v, not %+v", what, restOf(st), want)
	}
	return st, i
}

// step is a thing that is done to a store, once more or anew.
type step func(st store.State) (store.State, api.Errno)

func saving(text string) step {
	return func(st store.State) (store.State, api.Errno) { return store.Save(st, text) }
}

func logging(text string) step {
	return func(st store.State) (store.State, api.Errno) { return store.Log(st, text) }
}

// done is what a store is behind steps that are to go well.
func done(t *testing.T, st store.State, steps ...step) store.State {
	t.Helper()
	for _, do := range steps {
		next, e := do(st)
		st = must(t, next, e)
	}
	return st
}

// cutsOf are all lists of n cuts, of each of these numbers.
func cutsOf(n int, of []int) [][]int {
	lists := [][]int{nil}
	for range n {
		var longer [][]int
		for _, l := range lists {
			for _, c := range of {
				longer = append(longer, append(slices.Clone(l), c))
			}
		}
		lists = longer
	}
	return lists
}

// coarse are the edges of a sheet: nothing, within its first stamp, its body, and its second stamp, and all of it.
var coarse = []int{0, 5, 6, 33, 59, 63, 64}

func everyCut() []int {
	l := make([]int, 65)
	for c := range l {
		l[c] = c
	}
	return l
}

// finely are cuts for so many writes that wait: the fewer there are, the finer.
func finely(n int) [][]int {
	switch n {
	case 0, 1:
		return cutsOf(n, everyCut())
	case 2:
		return cutsOf(n, []int{0, 1, 2, 3, 4, 5, 6, 7, 8, 17, 20, 33, 50, 57, 58, 59, 60, 61, 62, 63, 64})
	case 3:
		return cutsOf(n, append([]int{1, 4, 58, 60}, coarse...))
	default:
		return cutsOf(n, []int{0, 6, 33, 63, 64})
	}
}

// broken goes through all that a loss of power leaves within a step that takes so many sheets: at each put and at the
// flush, with each of the cuts. If all of each write is left of the last case, the step is there, and if nothing, it is not.
func broken(t *testing.T, st store.State, do step, parts int, cuts func(n int) [][]int, each func(left disk.State, all, none bool)) {
	t.Helper()
	for fuse := range parts + 1 {
		cut := st
		cut.Disk = disk.Arm(st.Disk, fuse)
		left, e := do(cut)
		if e != api.ErrDown || restOf(left) != restOf(st) {
			t.Fatalf("a fuse of %d: %+v, %v", fuse, restOf(left), e)
		}
		for _, l := range cuts(fuse) {
			all := fuse == parts && !slices.ContainsFunc(l, func(c int) bool { return c < 64 })
			none := !slices.ContainsFunc(l, func(c int) bool { return c > 0 })
			each(disk.Crash(left.Disk, l), all, none)
		}
	}
}

// checkBroken: whatever is left of a step, what is opened is what was ahead of it, or what is behind it.
func checkBroken(t *testing.T, what string, st store.State, do step, parts int, was, is held) {
	t.Helper()
	broken(t, st, do, parts, finely, func(left disk.State, all, none bool) {
		checkHeld(t, what, left, was, is)
		if all {
			checkHeld(t, what+", all is left", left, is)
		}
		if none {
			checkHeld(t, what+", nothing is left", left, was)
		}
	})
	after := done(t, st, do)
	for _, l := range [][]int{nil, {0}, {64, 64}} { // nothing waits any more
		checkHeld(t, what+", answered", disk.Crash(after.Disk, l), is)
	}
}

// pasts are stores of 16 sectors that are live, with one record "r", and with other things that stood there ahead.
func pasts(t *testing.T) map[string]store.State {
	t.Helper()
	anew := func(d disk.State, steps ...step) store.State {
		return done(t, opened(t, d), append(steps, logging("r"))...)
	}
	once := anew(blank(16), saving("all"))
	many := []step{saving(textOf(120)), logging(textOf(60)), logging(""), logging(textOf(99)), saving(textOf(90)), logging("s"), logging(textOf(70)), saving("all")}
	full := anew(blank(16), many...)
	torn, _ := store.Log(stateOf(fused(full.Disk, 2), restOf(full)), textOf(99))
	far := stateOf(full.Disk, restOf(full))
	far.Stamp = 0xFFF8
	cut, _ := store.Save(stateOf(fused(full.Disk, 3), restOf(full)), textOf(99))
	return map[string]store.State{
		"saved once":        once,
		"saved three times": full,
		"opened again":      anew(once.Disk, saving("all")),
		"a torn record":     anew(disk.Crash(torn.Disk, []int{64, 60}), saving("all")),
		"a torn slot":       anew(disk.Crash(cut.Disk, []int{64, 60, 5}), saving("all")),
		"stamps of a carry": done(t, far, saving(textOf(90)), saving("all"), logging("r")),
	}
}

func TestARecordIsThereWholeOrNotAtAll(t *testing.T) { // P8.5
	for name, st := range pasts(t) {
		was := held{"all", []string{"r"}}
		checkHeld(t, name, st.Disk, was)
		for _, more := range [][]string{nil, {""}, {textOf(40), "b"}} {
			st, was := st, was
			for _, text := range more {
				st, was = done(t, st, logging(text)), was.with(text)
			}
			for _, size := range []int{0, 30, 99, 140} {
				if parts := sheaf.Count(size); store.Fits(st, size) {
					checkBroken(t, name, st, logging(textOf(size)), parts, was, was.with(textOf(size)))
				}
			}
		}
	}
}

func TestWhatIsSavedIsThereWholeOrNotAtAll(t *testing.T) { // P8.5
	for name, st := range pasts(t) {
		was := held{"all", []string{"r"}}
		for _, size := range []int{0, 30, 99, 140} {
			text := textOf(size)
			checkBroken(t, name+", live", st, saving(text), sheaf.Count(size), was, held{text, nil})
			checkBroken(t, name+", opened", opened(t, st.Disk), saving(text), sheaf.Count(size), was, held{text, nil})
		}
	}
	for _, size := range []int{0, 30, 99, 140} {
		text := textOf(size)
		checkBroken(t, "a new disk", opened(t, blank(16)), saving(text), sheaf.Count(size), held{}, held{text, nil})
	}
}

// roughly are few cuts for so many writes that wait.
func roughly(n int) [][]int {
	if n < 2 {
		return cutsOf(n, coarse)
	}
	return cutsOf(n, []int{0, 33, 63, 64})
}

// The power goes within a step, again as the store is opened and saved, and again as it is opened and saved once more.
func TestThePowerGoesAgainAsItComesBack(t *testing.T) { // P8.5
	for name, st := range pasts(t) {
		was := held{"all", []string{"r"}}
		first, second, third := textOf(40), "again, "+textOf(35), "and again"
		for _, x := range []struct {
			do step
			is held
		}{{logging(first), was.with(first)}, {saving(first), held{first, nil}}} {
			broken(t, st, x.do, 2, roughly, func(left disk.State, _, _ bool) {
				back, i := checkHeld(t, name, left, was, x.is)
				now := []held{was, x.is}[i]
				broken(t, back, saving(second), 2, roughly, func(left disk.State, _, _ bool) {
					again, j := checkHeld(t, name+", again", left, now, held{second, nil})
					last := []held{now, {second, nil}}[j]
					broken(t, again, saving(third), 1, roughly, func(left disk.State, _, _ bool) {
						checkHeld(t, name+", and again", left, last, held{third, nil})
					})
					up := done(t, again, saving(third), logging("x"), logging(first))
					checkHeld(t, name+", gone on with", disk.Crash(up.Disk, nil), held{third, []string{"x", first}})
				})
			})
		}
	}
}

// A crash while nothing is under way changes nothing, however often the store is opened.
func TestACrashBetweenSteps(t *testing.T) { // P8.5
	for name, st := range pasts(t) {
		was := held{"all", []string{"r"}}
		for range 4 {
			back, _ := checkHeld(t, name, disk.Crash(st.Disk, []int{64, 3}), was)
			if !disk.Same(back.Disk, st.Disk) {
				t.Fatalf("%s: another disk", name)
			}
			st = back
		}
	}
}

// Where there is no room, nothing has changed, and it goes on.
func TestNoRoomIsNoLoss(t *testing.T) { // P8.2, P8.3, P8.5
	for name, st := range pasts(t) {
		was := held{"all", []string{"r"}}
		left, e := store.Save(st, textOf(room+1))
		if e != api.ErrFull || !alike(left, st) {
			t.Fatalf("%s: %+v, %v", name, restOf(left), e)
		}
		if left, e = store.Log(left, textOf(289)); e != api.ErrFull || !alike(left, st) {
			t.Fatalf("%s: %+v, %v", name, restOf(left), e)
		}
		checkHeld(t, name, left.Disk, was)
		checkHeld(t, name+", gone on with", done(t, left, logging("s")).Disk, was.with("s"))
	}
}

// ledger is a store, and all words that were answered, in order: what is saved is all of them.
type ledger struct {
	st    store.State
	words []string
	saved int // how many of them were in the text that was saved last
}

const between = "|"

// wordsOf are the words of what was opened.
func wordsOf(text string, records []string) []string {
	if text == "" {
		return records
	}
	return append(strings.Split(text, between), records...)
}

func (l *ledger) save(upTo int) api.Errno {
	st, e := store.Save(l.st, strings.Join(l.words[:upTo], between))
	l.st = st
	if e == api.OK {
		l.saved = upTo
	}
	return e
}

// add logs a word, and saves ahead of it where it does not fit.
func (l *ledger) add(word string) (e api.Errno) {
	if !store.Fits(l.st, len(word)) {
		if e = l.save(len(l.words)); e != api.OK {
			return e
		}
	}
	if l.st, e = store.Log(l.st, word); e == api.OK {
		l.words = append(l.words, word)
	}
	return e
}

// reopen is a crash, and what comes back: all words, and perhaps the one that was under way.
func (l *ledger) reopen(t *testing.T, r *rand.Rand, underWay string) (whole bool) {
	t.Helper()
	left := disk.Crash(l.st.Disk, someCuts(r, len(l.st.Disk.Wait)))
	st, text, records, e := store.Open(left)
	got := wordsOf(text, records)
	if e != api.OK {
		t.Fatalf("opened: %v", e)
	}
	if whole = underWay != "" && slices.Equal(got, append(slices.Clone(l.words), underWay)); !whole && !slices.Equal(got, l.words) {
		t.Fatalf("opened: %q, of %q, and of %q, which was under way", got, l.words, underWay)
	}
	if st.Live || st.Stamp <= st.Gen || len(records) != st.No || st.Stamp != slots.Top(left)+1 {
		t.Fatalf("opened: %+v", restOf(st))
	}
	l.st, l.words, l.saved = st, got, len(got)-len(records)
	return whole
}

// someCuts are cuts of writes that wait: all of each now and then, else many at the edges of a sheet.
func someCuts(r *rand.Rand, n int) []int {
	l := slices.Repeat([]int{64}, n)
	if r.Intn(4) == 0 {
		return l
	}
	for i := range l {
		l[i] = []int{0, r.Intn(7), r.Intn(65), 58 + r.Intn(7), 64, 64}[r.Intn(6)]
	}
	return l
}

// someWord is one that no other word of its ledger is.
func someWord(r *rand.Rand, no int) string {
	return string(rune('a'+no%26)) + strings.Repeat(string(rune('A'+no/26%26)), 1+r.Intn(60))
}

// Crash upon crash, in long runs: as it is opened, as it is saved, as words are logged, and between.
func TestCrashUponCrash(t *testing.T) { // P8.5
	r := rand.New(rand.NewSource(8))
	found := map[string]int{}
	for range 400 {
		l := &ledger{st: opened(t, blank(16+r.Intn(80)))}
		no := 0
		for alive := true; alive; {
			if r.Intn(4) > 0 {
				l.st.Disk = disk.Arm(l.st.Disk, r.Intn(30))
			}
			word, e := "", l.save(len(l.words))
			for ; e == api.OK && r.Intn(40) > 0; no++ {
				word = someWord(r, no)
				if e = l.add(word); e == api.OK && r.Intn(12) == 0 {
					word, e = "", l.save(len(l.words))
				}
			}
			if e == api.OK {
				word = ""
			}
			if e != api.OK && e != api.ErrDown && e != api.ErrFull {
				t.Fatalf("%d words: %v", len(l.words), e)
			}
			alive = e != api.ErrFull
			found[e.Error()]++
			if l.reopen(t, r, word) {
				found["whole"]++
			} else if e == api.ErrDown {
				found["gone"]++
			}
			if l.saved < len(l.words) {
				found["records"]++
			}
		}
	}
	for _, what := range []string{api.OK.Error(), api.ErrDown.Error(), api.ErrFull.Error(), "whole", "gone", "records"} {
		if found[what] < 50 {
			t.Errorf("%q: only %d times", what, found[what])
		}
	}
}
