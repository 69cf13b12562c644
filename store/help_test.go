package store_test

import (
	"slices"
	"strings"
	"testing"

	"errand/api"
	"errand/disk"
	"errand/sheaf"
	"errand/sheet"
	"errand/store"
)

// textOf is a text of n bytes, of which none is 0 and neighbours differ.
func textOf(n int) string {
	var b strings.Builder
	for i := range n {
		b.WriteByte(byte(i%241 + 1))
	}
	return b.String()
}

// sheetsOf are the sheets of a text with that head, of rising stamps.
func sheetsOf(h sheaf.Head, stamp int, text string) []string {
	bodies, e := sheaf.Lay(h, text)
	if e != api.OK {
		panic(e)
	}
	for i, body := range bodies {
		bodies[i] = sealed(stamp+i, body)
	}
	return bodies
}

func sealed(stamp int, body string) string {
	s, e := sheet.Seal(stamp, body)
	if e != api.OK {
		panic(e)
	}
	return s
}

// slotOf are the sheets of what a slot has.
func slotOf(gen, stamp int, text string) []string {
	return sheetsOf(sheaf.Head{Kind: 1, Gen: gen}, stamp, text)
}

func recordOf(gen, no, stamp int, text string) []string {
	return sheetsOf(sheaf.Head{Kind: 2, Gen: gen, No: no}, stamp, text)
}

// rowOf are the sheets of records of one generation, numbered from 0 on, of rising stamps.
func rowOf(gen, stamp int, records ...string) []string {
	var row []string
	for no, text := range records {
		row = append(row, recordOf(gen, no, stamp+len(row), text)...)
	}
	return row
}

// turned is a text with some bits of one of its bytes turned.
func turned(s string, at int, bits byte) string {
	b := []byte(s)
	b[at] ^= bits
	return string(b)
}

func blank(n int) disk.State {
	d, e := disk.New(n)
	if e != api.OK {
		panic(e)
	}
	return d
}

// like is a disk like d, with lists of its own.
func like(d disk.State) disk.State {
	return disk.State{Sectors: slices.Clone(d.Sectors), Wait: slices.Clone(d.Wait), Fuse: d.Fuse}
}

// laid is a disk like d, with these sectors from a place on.
func laid(d disk.State, at int, sectors ...string) disk.State {
	d = like(d)
	copy(d.Sectors[at:], sectors)
	return d
}

// waiting is a disk like d, on which these sectors wait, from a place on.
func waiting(d disk.State, at int, sectors ...string) disk.State {
	d = like(d)
	for i, s := range sectors {
		d.Wait = append(d.Wait, disk.Write{At: at + i, Data: s})
	}
	return d
}

// crowded is a disk like d, on which n more writes wait, all of bytes 0 for the last sector.
func crowded(d disk.State, n int) disk.State {
	d = like(d)
	nothing := disk.Write{At: len(d.Sectors) - 1, Data: strings.Repeat("\x00", 64)}
	d.Wait = append(d.Wait, slices.Repeat([]disk.Write{nothing}, n)...)
	return d
}

func fused(d disk.State, fuse int) disk.State {
	d = like(d)
	d.Fuse = fuse
	return d
}

// asFarAs is a disk like d, on which the first n of these sheets wait, put from a place on.
func asFarAs(d disk.State, at int, sheets []string, n int) disk.State {
	after := waiting(d, at, sheets[:n]...)
	if d.Fuse > 0 {
		after.Fuse = d.Fuse - n
	}
	return after
}

// noDisks are disks that may not be, though each has both slots, and records of the newer one's generation.
func noDisks() map[string]disk.State {
	fine := laid(laid(blank(16), 0, slotOf(4, 4, "old")...), 4, slotOf(5, 5, "new")...)
	fine = laid(fine, 8, rowOf(5, 6, textOf(60), "b")...)
	long := laid(laid(blank(512), 0, slotOf(5, 5, "new")...), 256, rowOf(5, 6, "b")...)
	long.Sectors = append(long.Sectors, long.Sectors[511])
	return map[string]disk.State{
		"zero":               {},
		"15 sectors":         {Sectors: fine.Sectors[:15], Fuse: -1},
		"513 sectors":        long,
		"a fuse of -2":       fused(fine, -2),
		"a sector of 63":     laid(fine, 15, textOf(63)),
		"a sector of 65":     laid(fine, 3, textOf(65)),
		"1025 writes":        crowded(fine, 1025),
		"a write at -1":      waiting(fine, -1, fine.Sectors[0]),
		"a write at 16":      waiting(fine, 16, fine.Sectors[0]),
		"a write of 63":      waiting(fine, 15, textOf(63)),
		"a write of nothing": waiting(fine, 8, ""),
		"spent, and a fuse":  fused(laid(fine, 15, sealed(1<<40, "")), -2),
		"spent, and a write": waiting(laid(fine, 15, sealed(1<<40, "")), 16, fine.Sectors[0]),
	}
}

// rest is a state without its disk, which can be held against another one as a whole.
type rest struct {
	slot, gen, stamp, at, no int
	live                     bool
}

func restOf(st store.State) rest {
	return rest{slot: st.Slot, gen: st.Gen, stamp: st.Stamp, at: st.At, no: st.No, live: st.Live}
}

// stateOf is the state of a disk and what goes on beside it.
func stateOf(d disk.State, r rest) store.State {
	return store.State{Disk: d, Slot: r.slot, Gen: r.gen, Stamp: r.stamp, At: r.at, No: r.no, Live: r.live}
}

// alike holds two states against each other without the calls that are tested.
func alike(a, b store.State) bool { return disk.Same(a.Disk, b.Disk) && restOf(a) == restOf(b) }

// checkState holds a state and an error that were answered against those that should be.
func checkState(t *testing.T, what string, got store.State, e api.Errno, want store.State, wanted api.Errno) {
	t.Helper()
	if e != wanted || restOf(got) != restOf(want) {
		t.Errorf("%s: %+v, %v, not %+v, %v", what, restOf(got), e, restOf(want), wanted)
	}
	if !disk.Same(got.Disk, want.Disk) {
		t.Errorf("%s: another disk: %d sectors, %d writes wait, the fuse is %d", what, len(got.Disk.Sectors), len(got.Disk.Wait), got.Disk.Fuse)
	}
}

func checkSave(t *testing.T, what string, st store.State, text string, want store.State, wanted api.Errno) {
	t.Helper()
	got, e := store.Save(st, text)
	checkState(t, what, got, e, want, wanted)
}

func checkLog(t *testing.T, what string, st store.State, text string, want store.State, wanted api.Errno) {
	t.Helper()
	got, e := store.Log(st, text)
	checkState(t, what, got, e, want, wanted)
}

// checkOpen holds all that Open answers of a disk that opens against what it should.
func checkOpen(t *testing.T, what string, d disk.State, want rest, text string, records ...string) {
	t.Helper()
	st, s, l, e := store.Open(d)
	checkState(t, what, st, e, stateOf(d, want), api.OK)
	if s != text || !slices.Equal(l, records) {
		t.Errorf("%s: %q, %q, not %q, %q", what, s, l, text, records)
	}
}

// checkNotOpened: beside an error all is zero.
func checkNotOpened(t *testing.T, what string, d disk.State, wanted api.Errno) {
	t.Helper()
	st, s, l, e := store.Open(d)
	checkState(t, what, st, e, store.State{}, wanted)
	if s != "" || len(l) != 0 {
		t.Errorf("%s: %q, %q beside an error", what, s, l)
	}
}

// must is the state of a call that is to go well.
func must(t *testing.T, st store.State, e api.Errno) store.State {
	t.Helper()
	if e != api.OK {
		t.Fatalf("a call that is to go well: %v", e)
	}
	return st
}

// opened is the state of a disk that is to be opened.
func opened(t *testing.T, d disk.State) store.State {
	t.Helper()
	st, _, _, e := store.Open(d)
	return must(t, st, e)
}
