package store_test

import (
	"math/rand"
	"slices"
	"testing"

	"errand/api"
	"errand/disk"
	"errand/journal"
	"errand/slots"
	"errand/store"
)

// plainOpen, plainSave and plainLog go by the chapter's words.
func plainOpen(d disk.State) (st store.State, text string, records []string, e api.Errno) {
	if disk.Check(d) != api.OK {
		return st, "", nil, api.ErrArg
	}
	if slots.Top(d) >= 1<<40 {
		return st, "", nil, api.ErrSpent
	}
	st = stateOf(d, rest{slot: 1, stamp: slots.Top(d) + 1, at: slots.Begin(len(d.Sectors))})
	if slot, snap, e := slots.Best(d); e == api.OK {
		records, at, _ := journal.Scan(d, snap.Gen)
		st.Slot, st.Gen, st.At, st.No = slot, snap.Gen, at, len(records)
		return st, snap.Text, records, api.OK
	}
	return st, "", nil, api.OK
}

func plainSave(st store.State, text string) (store.State, api.Errno) {
	if st.Slot != 0 && st.Slot != 1 {
		return st, api.ErrArg
	}
	d, next, e := slots.Save(st.Disk, 1-st.Slot, st.Stamp, st.Stamp, text)
	if e != api.OK {
		return stateOf(d, restOf(st)), e
	}
	return stateOf(d, rest{slot: 1 - st.Slot, gen: st.Stamp, stamp: next, at: slots.Begin(len(d.Sectors)), live: true}), api.OK
}

func plainLog(st store.State, text string) (store.State, api.Errno) {
	if !st.Live {
		return st, api.ErrState
	}
	d, at, next, e := journal.Put(st.Disk, st.At, st.Gen, st.No, st.Stamp, text)
	if e != api.OK {
		return stateOf(d, restOf(st)), e
	}
	return stateOf(d, rest{slot: st.Slot, gen: st.Gen, stamp: next, at: at, no: st.No + 1, live: true}), api.OK
}

func oneOf[T any](r *rand.Rand, l ...T) T { return l[r.Intn(len(l))] }

// someDisk is a disk with slots and records of a few generations, spoilt here and there; now and then it may not be.
func someDisk(r *rand.Rand) disk.State {
	n := 16 + r.Intn(9)
	d := blank(n)
	for slot := range 2 {
		if r.Intn(5) > 0 {
			d = laid(d, slot*(n/4), slotOf(1+r.Intn(4), 1+r.Intn(500), textOf(r.Intn(slots.Room(n)+1)))...)
		}
	}
	gen, no := 1+r.Intn(4), 0
	for at := n / 4 * 2; at < n && r.Intn(8) > 0; no++ {
		if r.Intn(20) == 0 {
			gen, no = 1+r.Intn(4), no+oneOf(r, 0, 1)
		}
		l := recordOf(gen, no, 1+r.Intn(500), textOf(r.Intn(oneOf(r, 30, 100))))
		d = laid(d, at, l...)
		at += len(l)
	}
	return spoilt(r, d)
}

func spoilt(r *rand.Rand, d disk.State) disk.State {
	n := len(d.Sectors)
	if r.Intn(3) == 0 {
		at := r.Intn(n)
		d = laid(d, at, turned(d.Sectors[at], oneOf(r, 3, 5, 7+r.Intn(57)), 1<<r.Intn(8)))
	}
	if r.Intn(4) == 0 {
		d = crowded(d, oneOf(r, 1, 5, 1020, 1022, 1023, 1024))
	}
	if r.Intn(4) == 0 && len(d.Wait) < 1024 {
		d = waiting(d, r.Intn(n), d.Sectors[r.Intn(n)])
	}
	if r.Intn(20) == 0 {
		d = laid(d, r.Intn(n), sealed(oneOf(r, 1<<40-1, 1<<40, 1<<40), ""))
	}
	d.Fuse = oneOf(r, -1, -1, -1, 0, 1, 2, 3, 4, 9)
	if r.Intn(30) == 0 {
		d = noDisks()[oneOf(r, "zero", "15 sectors", "a fuse of -2", "a sector of 63", "a write at 16", "spent, and a fuse")]
	}
	return d
}

// someState is mostly one that was opened, with its numbers changed here and there.
func someState(r *rand.Rand) store.State {
	d := someDisk(r)
	st, _, _, _ := plainOpen(d)
	st.Disk, st.Live = d, r.Intn(5) > 0
	if st.Gen == 0 {
		st.Gen = r.Intn(9)
	}
	if r.Intn(2) == 0 {
		st.At = len(d.Sectors)/2 + r.Intn(8)
	}
	switch r.Intn(16) {
	case 0:
		st.Slot = oneOf(r, -1, 0, 1, 2)
	case 1:
		st.Gen = oneOf(r, 0, -1, 1<<40, 1<<40+1)
	case 2:
		st.Stamp = oneOf(r, 0, -1, 1<<40-1, 1<<40, 1<<40+1)
	case 3:
		st.At = r.Intn(len(d.Sectors)+5) - 2
	case 4:
		st.No = oneOf(r, -1, 1<<32-1, 1<<32)
	}
	return st
}

func someText(r *rand.Rand) string {
	return textOf(oneOf(r, r.Intn(40), r.Intn(200), r.Intn(200), r.Intn(400), 15999+r.Intn(3)))
}

func TestOpenAtRandom(t *testing.T) { // P8.1
	r := rand.New(rand.NewSource(81))
	found, lengths := map[api.Errno]int{}, map[int]int{}
	for range 10000 {
		d := someDisk(r)
		want, text, records, e := plainOpen(d)
		if e == api.OK {
			checkOpen(t, "at random", d, restOf(want), text, records...)
		} else {
			checkNotOpened(t, "at random", d, e)
		}
		found[e]++
		lengths[len(records)]++
	}
	for _, e := range []api.Errno{api.OK, api.ErrArg, api.ErrSpent} {
		if found[e] < 50 {
			t.Errorf("only %d of the disks told %v", found[e], e)
		}
	}
	for n := range 5 {
		if lengths[n] < 50 {
			t.Errorf("only %d of the disks had %d records", lengths[n], n)
		}
	}
}

func TestSaveAndLogAtRandom(t *testing.T) { // P8.2, P8.3, P8.4
	r := rand.New(rand.NewSource(82))
	saved, logged, fit := map[api.Errno]int{}, map[api.Errno]int{}, map[bool]int{}
	for range 10000 {
		st, text := someState(r), someText(r)
		want, e := plainSave(st, text)
		checkSave(t, "at random", st, text, want, e)
		saved[e]++
		want, e = plainLog(st, text)
		checkLog(t, "at random", st, text, want, e)
		logged[e]++
		fits := journal.Fits(len(st.Disk.Sectors), st.At, len(text))
		if store.Fits(st, len(text)) != fits {
			t.Fatalf("%d bytes at %d of %d: not %v", len(text), st.At, len(st.Disk.Sectors), fits)
		}
		fit[fits]++
	}
	for _, e := range []api.Errno{api.OK, api.ErrArg, api.ErrRange, api.ErrLong, api.ErrFull, api.ErrDown, api.ErrMany} {
		if saved[e] < 50 || logged[e] < 50 {
			t.Errorf("only %d and %d of the calls told %v", saved[e], logged[e], e)
		}
	}
	if logged[api.ErrState] < 50 || fit[true] < 50 || fit[false] < 50 {
		t.Errorf("only %d were not live, %d fitted, and %d did not", logged[api.ErrState], fit[true], fit[false])
	}
}

const spare = 4 // entries of spare room behind the lists of a roomy disk

// roomy is a disk like d, with spare room behind its lists that is marked, so that a write into it shows.
func roomy(d disk.State) disk.State {
	sectors := append(slices.Clone(d.Sectors), slices.Repeat([]string{"spare"}, spare)...)
	wait := append(slices.Clone(d.Wait), slices.Repeat([]disk.Write{{At: -7, Data: "spare"}}, spare)...)
	return disk.State{Sectors: sectors[:len(d.Sectors)], Wait: wait[:len(d.Wait)], Fuse: d.Fuse}
}

// withRoom is a disk with its lists up to their capacity.
func withRoom(d disk.State) disk.State {
	return disk.State{Sectors: d.Sectors[:cap(d.Sectors)], Wait: d.Wait[:cap(d.Wait)], Fuse: d.Fuse}
}

// scribbled writes over all that was answered, and its spare room.
func scribbled(d disk.State, records []string) {
	d = withRoom(d)
	for i := range d.Sectors {
		d.Sectors[i] = "scribbled"
	}
	for i := range d.Wait {
		d.Wait[i] = disk.Write{At: -9, Data: "scribbled"}
	}
	for i := range records[:cap(records)] {
		records[:cap(records)][i] = "scribbled"
	}
}

// What comes in stays as it was, and its spare room, too; asked again, all is answered again, whatever is written into an
// answer ahead of that.
func TestWhatComesInStays(t *testing.T) { // P8.1, P8.2, P8.3, P8.4
	r := rand.New(rand.NewSource(83))
	for range 2000 {
		st, text := someState(r), someText(r)
		st.Disk = roomy(st.Disk)
		was := stateOf(like(withRoom(st.Disk)), restOf(st))
		for range 2 {
			want, s, records, e := plainOpen(st.Disk)
			if e == api.OK {
				checkOpen(t, "asked again", st.Disk, restOf(want), s, records...)
			}
			if got, _, l, e := store.Open(st.Disk); e == api.OK {
				scribbled(got.Disk, l)
			}
			want, e = plainSave(st, text)
			checkSave(t, "asked again", st, text, want, e)
			if got, e := store.Save(st, text); e == api.OK {
				scribbled(got.Disk, nil)
			}
			want, e = plainLog(st, text)
			checkLog(t, "asked again", st, text, want, e)
			if got, e := store.Log(st, text); e == api.OK {
				scribbled(got.Disk, nil)
			}
			store.Fits(st, len(text))
			if !store.Same(st, stateOf(like(st.Disk), restOf(st))) || !alike(stateOf(withRoom(st.Disk), restOf(st)), was) {
				t.Fatal("what came in is another one")
			}
		}
	}
}
