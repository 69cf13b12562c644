package journal_test

import (
	"math"
	"slices"
	"strings"
	"testing"

	"errand/api"
	"errand/disk"
	"errand/journal"
	"errand/sheaf"
	"errand/sheet"
)

// textOf is a text of n bytes, of which none is 0 and neighbours differ.
func textOf(n int) string {
	var b strings.Builder
	for i := range n {
		b.WriteByte(byte(i%241 + 1))
	}
	return b.String()
}

// sheetsOf are the sheets of a text with that head, of rising stamps.
func sheetsOf(h sheaf.Head, stamp int, text string) []string {
	bodies, e := sheaf.Lay(h, text)
	if e != api.OK {
		panic(e)
	}
	for i, body := range bodies {
		if bodies[i], e = sheet.Seal(stamp+i, body); e != api.OK {
			panic(e)
		}
	}
	return bodies
}

func recordHead(gen, no int) sheaf.Head { return sheaf.Head{Kind: 2, Gen: gen, No: no} }

func recordOf(gen, no, stamp int, text string) []string {
	return sheetsOf(recordHead(gen, no), stamp, text)
}

func blank(n int) disk.State {
	d, e := disk.New(n)
	if e != api.OK {
		panic(e)
	}
	return d
}

// like is a disk like d, with lists of its own.
func like(d disk.State) disk.State {
	return disk.State{Sectors: slices.Clone(d.Sectors), Wait: slices.Clone(d.Wait), Fuse: d.Fuse}
}

// laid is a disk like d, with these sectors from a place on.
func laid(d disk.State, at int, sectors ...string) disk.State {
	d = like(d)
	copy(d.Sectors[at:], sectors)
	return d
}

// waiting is a disk like d, on which these sectors wait, from a place on.
func waiting(d disk.State, at int, sectors ...string) disk.State {
	d = like(d)
	for i, s := range sectors {
		d.Wait = append(d.Wait, disk.Write{At: at + i, Data: s})
	}
	return d
}

// crowded is a disk like d, on which n more writes wait, all of sector 0.
func crowded(d disk.State, n int) disk.State {
	d = like(d)
	d.Wait = append(d.Wait, slices.Repeat([]disk.Write{{At: 0, Data: textOf(64)}}, n)...)
	return d
}

func fused(d disk.State, fuse int) disk.State {
	d = like(d)
	d.Fuse = fuse
	return d
}

// noDisks are disks that may not be, though each has two records of the generation 5 in its journal.
func noDisks() map[string]disk.State {
	records := slices.Concat(recordOf(5, 0, 10, textOf(60)), recordOf(5, 1, 12, "b"))
	fine := laid(blank(16), 8, records...)
	long := laid(blank(512), 256, records...)
	long.Sectors = append(long.Sectors, long.Sectors[0])
	return map[string]disk.State{
		"zero":               {},
		"15 sectors":         {Sectors: fine.Sectors[:15], Fuse: -1},
		"513 sectors":        long,
		"a fuse of -2":       fused(fine, -2),
		"a sector of 63":     laid(fine, 15, textOf(63)),
		"a sector of 65":     laid(fine, 0, textOf(65)),
		"1025 writes":        crowded(fine, 1025),
		"a write at -1":      waiting(fine, -1, textOf(64)),
		"a write at 16":      waiting(fine, 16, textOf(64)),
		"a write of 63":      waiting(fine, 15, textOf(63)),
		"a write of nothing": waiting(fine, 8, ""),
	}
}

// call is what Put is asked.
type call struct {
	d                  disk.State
	at, gen, no, stamp int
	text               string
}

// checkPut holds all that Put answers against what it should.
func checkPut(t *testing.T, what string, c call, want disk.State, place, next int, e api.Errno) {
	t.Helper()
	d, at, stamp, f := journal.Put(c.d, c.at, c.gen, c.no, c.stamp, c.text)
	if at != place || stamp != next || f != e {
		t.Errorf("%s: the place %d, the stamp %d, %v, not %d, %d, %v", what, at, stamp, f, place, next, e)
	}
	if !disk.Same(d, want) {
		t.Errorf("%s: another disk: %d writes wait, the fuse is %d", what, len(d.Wait), d.Fuse)
	}
}

// checkRefused: with such an error all is as it was.
func checkRefused(t *testing.T, what string, c call, e api.Errno) {
	t.Helper()
	checkPut(t, what, c, c.d, c.at, c.stamp, e)
}

func TestPutLaysARecord(t *testing.T) { // P7.1
	for _, n := range []int{16, 17, 19, 20, 23, 511, 512} {
		begin := n / 4 * 2
		old := laid(blank(n), 0, slices.Repeat([]string{textOf(64)}, n)...)
		for _, size := range []int{0, 1, 29, 30, 66, 67, 103, 104, 288} {
			sheets := recordOf(258, 7, 300, textOf(size))
			for at := begin; at+len(sheets) <= n; at += 1 + (n-begin)/9 {
				want := laid(old, at, sheets...)
				checkPut(t, "a record", call{old, at, 258, 7, 300, textOf(size)}, want, at+len(sheets), 300+len(sheets), api.OK)
			}
		}
	}
}

func TestPutWrittenOut(t *testing.T) { // P7.1
	d, at, next, e := journal.Put(blank(16), 15, 0x0102030405, 0x06070809, 258, "ab")
	stamp := "\x00\x00\x00\x00\x01\x02"
	head := "\x02" + "\x00\x01\x02\x03\x04\x05" + "\x06\x07\x08\x09" + "\x00\x00\x00\x01"
	want := stamp + head + "\x99\x40\x19\xff" + "\x00\x00\x00\x02" + "ab" + strings.Repeat("\x00", 27) + stamp
	if d.Sectors[15] != want || at != 16 || next != 259 || e != api.OK {
		t.Errorf("%q, %d, %d, %v, not %q", d.Sectors[15], at, next, e, want)
	}
}

func TestPutWithNumbersAtTheirEdges(t *testing.T) { // P7.1
	for _, x := range []struct{ gen, no, stamp int }{
		{1, 0, 1}, {1, 1<<32 - 1, 1}, {1 << 40, 0, 1}, {1 << 40, 1<<32 - 1, 1<<40 - 1}, {256, 255, 1<<40 - 1}, {1<<32 + 5, 65536, 5},
	} {
		want := laid(blank(16), 8, recordOf(x.gen, x.no, x.stamp, textOf(40))...)
		checkPut(t, "numbers", call{blank(16), 8, x.gen, x.no, x.stamp, textOf(40)}, want, 10, x.stamp+2, api.OK)
	}
	for _, gen := range []int{math.MinInt, -1, 0, 1<<40 + 1, 1<<48 + 5, math.MaxInt} {
		checkRefused(t, "a generation", call{blank(16), 8, gen, 0, 1, "a"}, api.ErrRange)
	}
	for _, no := range []int{math.MinInt, -1, 1 << 32, 1<<32 + 5, math.MaxInt} {
		checkRefused(t, "a number", call{blank(16), 8, 5, no, 1, "a"}, api.ErrRange)
	}
	for _, stamp := range []int{math.MinInt, -1, 0, 1 << 40, 1<<40 + 1, math.MaxInt - 1, math.MaxInt} {
		checkRefused(t, "a stamp", call{blank(16), 8, 5, 0, stamp, textOf(40)}, api.ErrRange)
	}
}

func TestPutRefusesDisks(t *testing.T) { // P7.1
	for name, d := range noDisks() {
		for _, at := range []int{math.MinInt, -1, 0, 7, 8, 10, 15, 256, len(d.Sectors), math.MaxInt} {
			checkRefused(t, name, call{d, at, 5, 2, 20, "a"}, api.ErrArg)
			checkRefused(t, name+", and all else", call{d, at, 0, -1, 0, textOf(16001)}, api.ErrArg)
		}
	}
}

func TestPutRefusesPlaces(t *testing.T) { // P7.1
	for _, n := range []int{16, 17, 19, 20, 24, 512} {
		begin := n / 4 * 2
		d := blank(n)
		for _, at := range []int{math.MinInt, -n, -1, 0, 1, n / 4, begin - 2, begin - 1, n + 1, n + 2, 1 << 32, math.MaxInt} {
			checkRefused(t, "a place", call{d, at, 5, 0, 1, "a"}, api.ErrArg)
			checkRefused(t, "a place, and all else", call{fused(d, 0), at, 0, -1, 0, textOf(16001)}, api.ErrArg)
		}
		checkPut(t, "the beginning", call{d, begin, 5, 0, 1, "a"}, laid(d, begin, recordOf(5, 0, 1, "a")...), begin+1, 2, api.OK)
		checkPut(t, "the last sector", call{d, n - 1, 5, 0, 1, "a"}, laid(d, n-1, recordOf(5, 0, 1, "a")...), n, 2, api.OK)
		checkRefused(t, "the end", call{d, n, 5, 0, 1, ""}, api.ErrFull)
		checkRefused(t, "the end, and no head", call{d, n, 0, 0, 1, ""}, api.ErrRange)
		checkRefused(t, "the end, and a long text", call{d, n, 5, 0, 1, textOf(16001)}, api.ErrLong)
	}
}

func TestPutOfLongRecords(t *testing.T) { // P7.1
	for _, n := range []int{16, 512} {
		begin := n / 2
		for _, size := range []int{16001, 16002, 30000} {
			checkRefused(t, "too long", call{blank(n), begin, 5, 0, 1, textOf(size)}, api.ErrLong)
		}
		checkRefused(t, "as long as may be, and no room", call{blank(n), begin, 5, 0, 1, textOf(16000)}, api.ErrFull)
		most := 37*(n-begin) - 8
		want := laid(blank(n), begin, recordOf(5, 0, 1, textOf(most))...)
		checkPut(t, "all of the journal", call{blank(n), begin, 5, 0, 1, textOf(most)}, want, n, 1+n-begin, api.OK)
		checkRefused(t, "a byte more", call{blank(n), begin, 5, 0, 1, textOf(most + 1)}, api.ErrFull)
	}
}

func TestPutWithAsManySectorsAsItTakes(t *testing.T) { // P7.1
	for _, size := range []int{0, 29, 30, 66, 67, 140, 251} {
		sheets := recordOf(5, 3, 9, textOf(size))
		for left := range 8 - len(sheets) + 1 {
			at := 16 - len(sheets) - left
			checkPut(t, "enough", call{blank(16), at, 5, 3, 9, textOf(size)}, laid(blank(16), at, sheets...), at+len(sheets), 9+len(sheets), api.OK)
		}
		for left := range len(sheets) {
			checkRefused(t, "fewer", call{blank(16), 16 - left, 5, 3, 9, textOf(size)}, api.ErrFull)
		}
	}
}

// Each one is wrong in all that stands behind its own error, too.
func TestPutTellsTheFirstOfSeveralErrors(t *testing.T) { // P7.1
	down := fused(blank(16), 0)
	full := fused(crowded(blank(16), 1024), 0)
	for _, x := range []struct {
		what string
		c    call
		e    api.Errno
	}{
		{"a place ahead of all", call{down, 7, 0, -1, 0, textOf(16001)}, api.ErrArg},
		{"a place behind ahead of all", call{down, 17, 0, -1, 0, textOf(16001)}, api.ErrArg},
		{"a head ahead of a long text", call{down, 16, 0, 0, 0, textOf(16001)}, api.ErrRange},
		{"a long text ahead of the room", call{down, 16, 5, 0, 0, textOf(16001)}, api.ErrLong},
		{"the room ahead of a stamp", call{down, 16, 5, 0, 0, "a"}, api.ErrFull},
		{"a stamp ahead of the power", call{down, 15, 5, 0, 0, "a"}, api.ErrRange},
		{"the power ahead of too many writes", call{full, 15, 5, 0, 1, "a"}, api.ErrDown},
		{"too many writes", call{fused(full, -1), 15, 5, 0, 1, "a"}, api.ErrMany},
	} {
		checkRefused(t, x.what, x.c, x.e)
	}
}

// asFarAs is a disk like d, on which the first n of these sheets wait, put from a place on.
func asFarAs(d disk.State, at int, sheets []string, n int) disk.State {
	after := waiting(d, at, sheets[:n]...)
	if d.Fuse > 0 {
		after.Fuse = d.Fuse - n
	}
	return after
}

func TestPutAsThePowerGoes(t *testing.T) { // P7.1
	for _, size := range []int{0, 30, 67, 140} {
		sheets := recordOf(258, 7, 300, textOf(size))
		for fuse := range len(sheets) + 1 { // at each put, and at the flush
			for _, others := range []int{0, 7} {
				d := fused(crowded(blank(16), others), fuse)
				checkPut(t, "the power gone", call{d, 9, 258, 7, 300, textOf(size)}, asFarAs(d, 9, sheets, fuse), 9, 300, api.ErrDown)
			}
		}
		for more := range 3 {
			d := fused(blank(16), len(sheets)+1+more)
			want := fused(laid(blank(16), 9, sheets...), more)
			checkPut(t, "power enough", call{d, 9, 258, 7, 300, textOf(size)}, want, 9+len(sheets), 300+len(sheets), api.OK)
		}
		for room := range len(sheets) {
			d := crowded(blank(16), 1024-room)
			checkPut(t, "too many writes", call{d, 9, 258, 7, 300, textOf(size)}, asFarAs(d, 9, sheets, room), 9, 300, api.ErrMany)
		}
		d := crowded(blank(16), 1024-len(sheets)) // they go with the flush
		want := laid(laid(blank(16), 0, textOf(64)), 9, sheets...)
		checkPut(t, "just few enough", call{d, 9, 258, 7, 300, textOf(size)}, want, 9+len(sheets), 300+len(sheets), api.OK)
	}
}
