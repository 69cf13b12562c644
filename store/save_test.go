package store_test

import (
	"math"
	"testing"

	"errand/api"
	"errand/disk"
	"errand/store"
)

// room is how many bytes a slot of a disk of 16 sectors has room for.
const room = 140

// savedRest is what goes on beside the disk, once a text was saved with these stamps.
func savedRest(n, slot, gen, next int) rest {
	return rest{slot: slot, gen: gen, stamp: next, at: n / 4 * 2, live: true}
}

func TestSaveIntoTheOtherSlot(t *testing.T) { // P8.2
	for _, n := range []int{16, 17, 19, 20, 23, 511, 512} {
		for slot := range 2 {
			full := laid(laid(blank(n), 0, slotOf(3, 3, textOf(140))...), n/4, slotOf(4, 7, textOf(130))...)
			full = laid(full, n/4*2, rowOf(4, 11, "a", "b")...)
			for _, d := range []disk.State{blank(n), full} {
				for _, size := range []int{0, 1, 29, 30, 67, 140} {
					sheets := slotOf(300, 300, textOf(size))
					st := stateOf(d, rest{slot: slot, gen: 4, stamp: 300, at: n/4*2 + 2, no: 2})
					want := stateOf(laid(d, (1-slot)*(n/4), sheets...), savedRest(n, 1-slot, 300, 300+len(sheets)))
					checkSave(t, "not live", st, textOf(size), want, api.OK)
					st.Live = true
					checkSave(t, "live", st, textOf(size), want, api.OK)
				}
			}
		}
	}
}

// What the state has beside the disk, the slot and the stamp does not matter.
func TestSaveLetsTheRestGo(t *testing.T) { // P8.2
	for _, gen := range []int{math.MinInt, -1, 0, 1, 50, 51, 1 << 40, math.MaxInt} {
		for _, at := range []int{math.MinInt, -1, 0, 7, 8, 16, 17, math.MaxInt} {
			for _, no := range []int{math.MinInt, -1, 0, 5, 1 << 32, math.MaxInt} {
				st := stateOf(blank(16), rest{slot: 1, gen: gen, stamp: 50, at: at, no: no, live: no < 0})
				want := stateOf(laid(blank(16), 0, slotOf(50, 50, "a")...), savedRest(16, 0, 50, 51))
				checkSave(t, "the rest", st, "a", want, api.OK)
			}
		}
	}
}

func TestSaveByTurns(t *testing.T) { // P8.2
	d, stamp := blank(16), 1
	st := opened(t, d)
	for i := range 12 {
		text := textOf(i * 12)
		sheets := slotOf(stamp, stamp, text)
		d = laid(d, i%2*4, sheets...)
		want := stateOf(d, savedRest(16, i%2, stamp, stamp+len(sheets)))
		checkSave(t, "by turns", st, text, want, api.OK)
		gen := stamp
		stamp += len(sheets)
		checkOpen(t, "opened", d, rest{slot: i % 2, gen: gen, stamp: stamp, at: 8}, text)
		st = want
	}
}

// checkNotSaved: with such an error all is as it was.
func checkNotSaved(t *testing.T, what string, st store.State, text string, e api.Errno) {
	t.Helper()
	checkSave(t, what, st, text, st, e)
}

func TestSaveRefusesSlots(t *testing.T) { // P8.2
	for _, slot := range []int{math.MinInt, math.MinInt + 1, math.MinInt + 2, -2, -1, 2, 3, 4, 1 << 32, 1<<32 + 1, math.MaxInt - 1, math.MaxInt} {
		for _, live := range []bool{false, true} {
			st := stateOf(blank(16), rest{slot: slot, gen: 3, stamp: 9, at: 10, no: 2, live: live})
			checkNotSaved(t, "a slot", st, "a", api.ErrArg)
			st.Stamp, st.Disk.Fuse = 0, 0
			checkNotSaved(t, "a slot, and all else", st, textOf(16001), api.ErrArg)
		}
	}
}

func TestSaveRefusesDisks(t *testing.T) { // P8.2
	for name, d := range noDisks() {
		for slot := range 2 {
			st := stateOf(d, rest{slot: slot, gen: 3, stamp: 9, at: 10, no: 2, live: slot == 0})
			checkNotSaved(t, name, st, "a", api.ErrArg)
			st.Stamp = 0
			checkNotSaved(t, name+", and all else", st, textOf(16001), api.ErrArg)
		}
	}
}

func TestSaveOfLongTexts(t *testing.T) { // P8.2
	for _, x := range []struct{ n, room int }{{16, room}, {17, room}, {19, room}, {20, 177}, {511, 4691}, {512, 4728}} {
		for slot := range 2 {
			st := stateOf(blank(x.n), rest{slot: slot, gen: 3, stamp: 9, at: x.n - 1, no: 2, live: slot == 0})
			want := stateOf(laid(blank(x.n), (1-slot)*(x.n/4), slotOf(9, 9, textOf(x.room))...), savedRest(x.n, 1-slot, 9, 9+x.n/4))
			checkSave(t, "all of the slot", st, textOf(x.room), want, api.OK)
			checkNotSaved(t, "a byte more", st, textOf(x.room+1), api.ErrFull)
			checkNotSaved(t, "as long as may be", st, textOf(16000), api.ErrFull)
			checkNotSaved(t, "too long", st, textOf(16001), api.ErrLong)
			checkNotSaved(t, "far too long", st, textOf(40000), api.ErrLong)
		}
	}
}

func TestSaveWithStampsAtTheirEdges(t *testing.T) { // P8.2
	for _, stamp := range []int{math.MinInt, -1, 0, 1<<40 + 1, 1<<48 + 5, math.MaxInt - 1, math.MaxInt} {
		st := stateOf(blank(16), rest{slot: 1, gen: 3, stamp: stamp, at: 9, no: 1, live: true})
		checkNotSaved(t, "a stamp", st, "a", api.ErrRange)
		checkNotSaved(t, "a stamp ahead of a long text", st, textOf(16001), api.ErrRange)
		checkNotSaved(t, "a stamp ahead of the room", st, textOf(room+1), api.ErrRange)
	}
	for _, x := range []struct{ stamp, size int }{{1, 0}, {1, room}, {1 << 40, 29}, {1<<40 - 1, 30}, {1<<40 - 1, 0}, {1<<40 - 3, room}} {
		sheets := slotOf(x.stamp, x.stamp, textOf(x.size))
		st := stateOf(blank(16), rest{slot: 0, gen: 3, stamp: x.stamp, at: 9, no: 1})
		want := stateOf(laid(blank(16), 4, sheets...), savedRest(16, 1, x.stamp, x.stamp+len(sheets)))
		checkSave(t, "the last stamp that may be", st, textOf(x.size), want, api.OK)
	}
	for _, x := range []struct{ stamp, size int }{{1 << 40, 30}, {1<<40 - 1, 67}, {1<<40 - 2, room}} {
		st := stateOf(blank(16), rest{slot: 0, gen: 3, stamp: x.stamp, at: 9, no: 1})
		checkNotSaved(t, "a stamp too many", st, textOf(x.size), api.ErrRange)
		checkNotSaved(t, "the room ahead of it", st, textOf(room+1), api.ErrFull)
	}
}

// At each put, and at the flush: the disk is as far as it came, and all else is as it was, whether live or not.
func TestSaveAsThePowerGoes(t *testing.T) { // P8.2
	for slot := range 2 {
		other := (1 - slot) * 4
		for _, size := range []int{0, 30, 67, room} {
			sheets := slotOf(300, 300, textOf(size))
			r := rest{slot: slot, gen: 3, stamp: 300, at: 10, no: 2, live: size == 67}
			for fuse := range len(sheets) + 1 {
				for _, others := range []int{0, 7} {
					d := fused(crowded(blank(16), others), fuse)
					checkSave(t, "the power gone", stateOf(d, r), textOf(size), stateOf(asFarAs(d, other, sheets, fuse), r), api.ErrDown)
				}
			}
			for more := range 3 {
				d := fused(blank(16), len(sheets)+1+more)
				want := stateOf(fused(laid(blank(16), other, sheets...), more), savedRest(16, 1-slot, 300, 300+len(sheets)))
				checkSave(t, "power enough", stateOf(d, r), textOf(size), want, api.OK)
			}
			for few := range len(sheets) {
				d := crowded(blank(16), 1024-few)
				checkSave(t, "too many writes", stateOf(d, r), textOf(size), stateOf(asFarAs(d, other, sheets, few), r), api.ErrMany)
			}
			d := crowded(blank(16), 1024-len(sheets)) // they go with the flush
			want := stateOf(laid(blank(16), other, sheets...), savedRest(16, 1-slot, 300, 300+len(sheets)))
			checkSave(t, "just few enough", stateOf(d, r), textOf(size), want, api.OK)
		}
	}
}

// Each one is wrong in all that stands behind its own error, too.
func TestSaveTellsTheFirstOfSeveralErrors(t *testing.T) { // P8.2
	down := fused(blank(16), 0)
	full := fused(crowded(blank(16), 1024), 0)
	for _, x := range []struct {
		what        string
		d           disk.State
		slot, stamp int
		size        int
		e           api.Errno
	}{
		{"a slot ahead of all", down, 2, 0, 16001, api.ErrArg},
		{"a generation ahead of a long text", down, 1, 0, 16001, api.ErrRange},
		{"a long text ahead of the room", down, 1, 1 << 40, 16001, api.ErrLong},
		{"the room ahead of a stamp", down, 1, 1 << 40, room + 1, api.ErrFull},
		{"a stamp ahead of the power", down, 1, 1 << 40, room, api.ErrRange},
		{"the power ahead of too many writes", full, 1, 1, room, api.ErrDown},
		{"too many writes", fused(full, -1), 1, 1, room, api.ErrMany},
	} {
		checkNotSaved(t, x.what, stateOf(x.d, rest{slot: x.slot, gen: 3, stamp: x.stamp, at: 9, no: 1}), textOf(x.size), x.e)
	}
}

func TestTheExample(t *testing.T) { // P8.1, P8.2
	checkOpen(t, "a new disk", blank(16), rest{slot: 1, gen: 0, stamp: 1, at: 8}, "")
	want := stateOf(laid(blank(16), 0, slotOf(1, 1, "all")...), rest{slot: 0, gen: 1, stamp: 2, at: 8, live: true})
	checkSave(t, "saved", opened(t, blank(16)), "all", want, api.OK)
}
