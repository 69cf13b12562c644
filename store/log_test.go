package store_test

import (
	"math"
	"strings"
	"testing"

	"errand/api"
	"errand/disk"
	"errand/store"
)

// loggable is what goes on beside a disk of 16 sectors, of which the slot 1 was saved as the generation 258.
func loggable(at, no, stamp int) rest {
	return rest{slot: 1, gen: 258, stamp: stamp, at: at, no: no, live: true}
}

func TestLogLaysARecord(t *testing.T) { // P8.3
	for _, n := range []int{16, 19, 20, 512} {
		begin := n / 4 * 2
		for _, size := range []int{0, 1, 29, 30, 66, 67, 140, 288} {
			sheets := recordOf(258, 7, 300, textOf(size))
			for at := begin; at+len(sheets) <= n; at += 1 + (n-begin)/9 {
				for slot := -1; slot <= 2; slot++ { // the slot does not matter
					was := rest{slot: slot, gen: 258, stamp: 300, at: at, no: 7, live: true}
					want := rest{slot: slot, gen: 258, stamp: 300 + len(sheets), at: at + len(sheets), no: 8, live: true}
					checkLog(t, "a record", stateOf(blank(n), was), textOf(size), stateOf(laid(blank(n), at, sheets...), want), api.OK)
				}
			}
		}
	}
}

func TestLogOneBehindTheOther(t *testing.T) { // P8.3, P8.5
	st, e := store.Save(opened(t, blank(20)), "all")
	st = must(t, st, e)
	var records []string
	for no, size := range []int{30, 0, 1, 67, 29, 40} {
		text := textOf(size)
		sheets := recordOf(1, no, st.Stamp, text)
		want := stateOf(laid(st.Disk, st.At, sheets...), rest{slot: 0, gen: 1, stamp: st.Stamp + len(sheets), at: st.At + len(sheets), no: no + 1, live: true})
		checkLog(t, "one more", st, text, want, api.OK)
		st, records = want, append(records, text)
		checkOpen(t, "opened", st.Disk, rest{slot: 0, gen: 1, stamp: st.Stamp, at: st.At, no: no + 1}, "all", records...)
	}
}

// checkNotLogged: with such an error all is as it was.
func checkNotLogged(t *testing.T, what string, st store.State, text string, e api.Errno) {
	t.Helper()
	checkLog(t, what, st, text, st, e)
}

// A state that is not live tells so, whatever else is wrong.
func TestLogRefusesAStateThatIsNotLive(t *testing.T) { // P8.3
	fine := loggable(8, 0, 300)
	fine.live = false
	wrong := rest{slot: 5, gen: -1, stamp: -1, at: -1, no: -1}
	for _, r := range []rest{fine, wrong, {}} {
		checkNotLogged(t, "not live", stateOf(blank(16), r), "a", api.ErrState)
		checkNotLogged(t, "and long", stateOf(blank(16), r), textOf(16001), api.ErrState)
		checkNotLogged(t, "and down", stateOf(fused(blank(16), 0), r), "", api.ErrState)
		for name, d := range noDisks() {
			checkNotLogged(t, "not live, "+name, stateOf(d, r), "a", api.ErrState)
		}
	}
	checkNotLogged(t, "just opened", opened(t, blank(16)), "a", api.ErrState)
	saved, e := store.Save(opened(t, blank(16)), "all")
	checkNotLogged(t, "opened again", opened(t, must(t, saved, e).Disk), "a", api.ErrState)
}

func TestLogRefusesDisksAndPlaces(t *testing.T) { // P8.3
	for name, d := range noDisks() {
		checkNotLogged(t, name, stateOf(d, loggable(8, 0, 300)), "a", api.ErrArg)
		checkNotLogged(t, name+", and all else", stateOf(d, rest{gen: -1, stamp: -1, at: -1, no: -1, live: true}), textOf(16001), api.ErrArg)
	}
	for _, n := range []int{16, 19, 20, 512} {
		begin := n / 4 * 2
		for _, at := range []int{math.MinInt, -1, 0, begin - 1, n + 1, 1 << 32, math.MaxInt} {
			checkNotLogged(t, "a place", stateOf(blank(n), loggable(at, 0, 300)), "a", api.ErrArg)
		}
		checkNotLogged(t, "the end", stateOf(blank(n), loggable(n, 0, 300)), "", api.ErrFull)
	}
}

func TestLogRefusesNumbers(t *testing.T) { // P8.3
	for _, gen := range []int{math.MinInt, -1, 0, 1<<40 + 1, math.MaxInt} {
		checkNotLogged(t, "a generation", stateOf(blank(16), rest{gen: gen, stamp: 9, at: 8, live: true}), "a", api.ErrRange)
	}
	for _, no := range []int{math.MinInt, -1, 1 << 32, math.MaxInt} {
		checkNotLogged(t, "a number", stateOf(blank(16), loggable(8, no, 9)), "a", api.ErrRange)
	}
	for _, stamp := range []int{math.MinInt, -1, 0, 1 << 40, 1<<40 + 1, math.MaxInt} {
		checkNotLogged(t, "a stamp", stateOf(blank(16), loggable(8, 0, stamp)), textOf(30), api.ErrRange)
	}
	for _, x := range []struct{ gen, no, stamp int }{{1, 0, 1}, {1 << 40, 1<<32 - 1, 1<<40 - 1}} {
		was := rest{slot: 0, gen: x.gen, stamp: x.stamp, at: 8, no: x.no, live: true}
		want := rest{slot: 0, gen: x.gen, stamp: x.stamp + 2, at: 10, no: x.no + 1, live: true}
		d := laid(blank(16), 8, recordOf(x.gen, x.no, x.stamp, textOf(30))...)
		checkLog(t, "at their edges", stateOf(blank(16), was), textOf(30), stateOf(d, want), api.OK)
	}
}

func TestLogWithAsManySectorsAsItTakes(t *testing.T) { // P8.3
	for _, size := range []int{0, 29, 30, 66, 67, 140, 251, 288} {
		sheets := recordOf(258, 3, 9, textOf(size))
		n := len(sheets)
		want := stateOf(laid(blank(16), 16-n, sheets...), loggable(16, 4, 9+n))
		checkLog(t, "just enough", stateOf(blank(16), loggable(16-n, 3, 9)), textOf(size), want, api.OK)
		checkNotLogged(t, "one fewer", stateOf(blank(16), loggable(17-n, 3, 9)), textOf(size), api.ErrFull)
	}
	for _, n := range []int{16, 512} {
		r := loggable(n/2, 3, 9)
		checkNotLogged(t, "too long for the disk", stateOf(blank(n), r), textOf(37*n/2-7), api.ErrFull)
		checkNotLogged(t, "as long as may be", stateOf(blank(n), r), textOf(16000), api.ErrFull)
		checkNotLogged(t, "too long", stateOf(blank(n), r), textOf(16001), api.ErrLong)
	}
}

// At each put, and at the flush: the disk is as far as it came, and all else is as it was.
func TestLogAsThePowerGoes(t *testing.T) { // P8.3
	r := loggable(9, 7, 300)
	for _, size := range []int{0, 30, 67, 140} {
		sheets := recordOf(258, 7, 300, textOf(size))
		for fuse := range len(sheets) + 1 {
			for _, others := range []int{0, 7} {
				d := fused(crowded(blank(16), others), fuse)
				checkLog(t, "the power gone", stateOf(d, r), textOf(size), stateOf(asFarAs(d, 9, sheets, fuse), r), api.ErrDown)
			}
		}
		after := loggable(9+len(sheets), 8, 300+len(sheets))
		for more := range 3 {
			d := fused(blank(16), len(sheets)+1+more)
			checkLog(t, "power enough", stateOf(d, r), textOf(size), stateOf(fused(laid(blank(16), 9, sheets...), more), after), api.OK)
		}
		for few := range len(sheets) {
			d := crowded(blank(16), 1024-few)
			checkLog(t, "too many writes", stateOf(d, r), textOf(size), stateOf(asFarAs(d, 9, sheets, few), r), api.ErrMany)
		}
		d := crowded(blank(16), 1024-len(sheets)) // they go with the flush
		checkLog(t, "just few enough", stateOf(d, r), textOf(size), stateOf(laid(blank(16), 9, sheets...), after), api.OK)
	}
}

// Each one is wrong in all that stands behind its own error, too.
func TestLogTellsTheFirstOfSeveralErrors(t *testing.T) { // P8.3
	down := fused(blank(16), 0)
	full := fused(crowded(blank(16), 1024), 0)
	for _, x := range []struct {
		what string
		d    disk.State
		r    rest
		text string
		e    api.Errno
	}{
		{"not live ahead of all", down, rest{at: 7}, textOf(16001), api.ErrState},
		{"a place ahead of the head", down, rest{at: 7, live: true}, textOf(16001), api.ErrArg},
		{"the head ahead of a long text", down, rest{at: 16, live: true}, textOf(16001), api.ErrRange},
		{"a long text ahead of the room", down, loggable(16, 0, 0), textOf(16001), api.ErrLong},
		{"the room ahead of a stamp", down, loggable(16, 0, 0), "", api.ErrFull},
		{"a stamp ahead of the power", down, loggable(15, 0, 0), "", api.ErrRange},
		{"the power ahead of too many writes", full, loggable(15, 0, 1), "", api.ErrDown},
		{"too many writes", fused(full, -1), loggable(15, 0, 1), "", api.ErrMany},
	} {
		checkNotLogged(t, x.what, stateOf(x.d, x.r), x.text, x.e)
	}
}

func TestFits(t *testing.T) { // P8.4
	for _, x := range []struct {
		n, at, size int
		want        bool
	}{
		{16, 8, 0, true}, {16, 8, 288, true}, {16, 8, 289, false}, {16, 9, 251, true}, {16, 9, 252, false},
		{16, 15, 0, true}, {16, 15, 29, true}, {16, 15, 30, false}, {16, 14, 66, true}, {16, 14, 67, false},
		{16, 7, 0, false}, {16, 0, 0, false}, {16, -1, 0, false}, {16, math.MinInt, 0, false}, {16, math.MinInt + 17, 0, false},
		{16, 16, 0, false}, {16, 17, 0, false}, {16, 16, -1, false}, {16, math.MaxInt, 0, false},
		{16, 8, -1, false}, {16, 8, math.MinInt, false}, {16, 8, 16000, false}, {16, 8, 16001, false}, {16, 8, math.MaxInt, false},
		{19, 8, 399, true}, {19, 8, 400, false}, {19, 7, 0, false}, {20, 10, 362, true}, {20, 9, 0, false},
		{512, 256, 9464, true}, {512, 256, 9465, false}, {512, 255, 0, false}, {512, 511, 29, true}, {512, 511, 30, false},
		{512, 512, 0, false}, {512, 256, 16000, false}, {512, 256, 16001, false}, {512, 256, -1, false},
		{15, 8, 0, false}, {15, 6, 0, false}, {0, 0, 0, false}, {513, 256, 0, false}, {1024, 600, 0, false},
	} {
		d := disk.State{Sectors: make([]string, x.n), Fuse: -1}
		for i := range d.Sectors {
			d.Sectors[i] = strings.Repeat("\x00", 64)
		}
		for _, live := range []bool{false, true} {
			for _, fuse := range []int{-1, 0} {
				d.Fuse = fuse
				if got := store.Fits(stateOf(d, rest{slot: 1, gen: 1, stamp: 2, at: x.at, live: live}), x.size); got != x.want {
					t.Errorf("%d bytes at %d of %d, live %v: %v", x.size, x.at, x.n, live, got)
				}
			}
		}
	}
}

// It is asked of as many sectors as there are and of the place alone, whatever else may not be.
func TestFitsIsAskedOfThePlaceAlone(t *testing.T) { // P8.4
	for name, d := range noDisks() {
		want := len(d.Sectors) == 16
		for _, r := range []rest{{at: 15}, {slot: -5, gen: -1, stamp: -1, at: 15, no: -1, live: true}, loggable(15, 1<<33, 1<<50)} {
			if got := store.Fits(stateOf(d, r), 29); got != want {
				t.Errorf("%s: %v", name, got)
			}
		}
	}
	if store.Fits(store.State{}, 0) {
		t.Error("the zero state has room")
	}
}

func TestFitsIsWhatLogTells(t *testing.T) { // P8.3, P8.4
	for _, n := range []int{16, 17, 19, 20} {
		for at := -2; at <= n+2; at++ {
			for size := 0; size < 460; size += 1 + size%9 {
				st := stateOf(blank(n), loggable(at, 0, 300))
				if _, e := store.Log(st, textOf(size)); store.Fits(st, size) != (e == api.OK) {
					t.Errorf("%d bytes at %d of %d: Log tells %v", size, at, n, e)
				}
			}
		}
	}
}

func TestSame(t *testing.T) { // P8.4
	d := waiting(laid(blank(16), 0, slotOf(5, 5, "all")...), 8, rowOf(5, 6, "a", "b")...)
	r := rest{slot: 1, gen: 5, stamp: 8, at: 10, no: 2, live: true}
	with := func(change func(st *store.State)) store.State {
		st := stateOf(like(d), r)
		change(&st)
		return st
	}
	others := map[string]store.State{
		"zero":                  {},
		"the slot":              with(func(st *store.State) { st.Slot = 0 }),
		"the generation":        with(func(st *store.State) { st.Gen += 1 << 40 }),
		"the stamp":             with(func(st *store.State) { st.Stamp-- }),
		"the place":             with(func(st *store.State) { st.At += 1 << 32 }),
		"the number":            with(func(st *store.State) { st.No = -st.No }),
		"live":                  with(func(st *store.State) { st.Live = false }),
		"the fuse":              with(func(st *store.State) { st.Disk.Fuse = 0 }),
		"the first sector":      with(func(st *store.State) { st.Disk.Sectors[0] = turned(st.Disk.Sectors[0], 63, 128) }),
		"the last sector":       with(func(st *store.State) { st.Disk.Sectors[15] = turned(st.Disk.Sectors[15], 0, 1) }),
		"a sector more":         with(func(st *store.State) { st.Disk.Sectors = append(st.Disk.Sectors, st.Disk.Sectors[15]) }),
		"a sector fewer":        with(func(st *store.State) { st.Disk.Sectors = st.Disk.Sectors[:15] }),
		"a write's place":       with(func(st *store.State) { st.Disk.Wait[0].At = 9 }),
		"a write's data":        with(func(st *store.State) { st.Disk.Wait[1].Data = st.Disk.Wait[0].Data }),
		"a write more":          with(func(st *store.State) { st.Disk.Wait = append(st.Disk.Wait, st.Disk.Wait[1]) }),
		"a write fewer":         with(func(st *store.State) { st.Disk.Wait = st.Disk.Wait[:1] }),
		"the order of writes":   with(func(st *store.State) { w := st.Disk.Wait; w[0], w[1] = w[1], w[0] }),
		"flushed":               with(func(st *store.State) { st.Disk, _ = disk.Flush(st.Disk) }),
		"two that are the same": with(func(st *store.State) { st.At, st.No = st.No, st.At }),
	}
	for name, a := range others {
		for other, b := range others {
			if store.Same(a, b) != (name == other) {
				t.Errorf("%q and %q: %v", name, other, store.Same(a, b))
			}
		}
		if me := stateOf(d, r); store.Same(a, me) || store.Same(me, a) || !store.Same(me, stateOf(like(d), r)) {
			t.Errorf("%q, held against what was not changed", name)
		}
	}
	empty := store.State{Disk: disk.State{Sectors: []string{}, Wait: []disk.Write{}}}
	if !store.Same(store.State{}, empty) || !store.Same(empty, store.State{}) {
		t.Error("an empty list and nil are told apart")
	}
	for name, bad := range noDisks() {
		if !store.Same(stateOf(bad, r), stateOf(like(bad), r)) || store.Same(stateOf(bad, r), stateOf(d, r)) {
			t.Errorf("%s, held against itself and a disk that may be", name)
		}
	}
}
