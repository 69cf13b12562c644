package slots

import (
	"math"
	"slices"
	"strings"
	"testing"

	"errand/api"
	"errand/disk"
	"errand/sheaf"
)

const spare = 5 // entries of spare room behind the lists of a roomy disk

var someHead = sheaf.Head{Kind: 2, Gen: 258, No: 7}

func noughts(n int) string { return strings.Repeat("\x00", n) }

// textOf is a text of n bytes, of which none is 0 and neighbours differ.
func textOf(n int) string {
	b := make([]byte, n)
	for i := range b {
		b[i] = byte(i%251 + 1)
	}
	return string(b)
}

// number is n in width bytes, the highest first, worked out apart from octet.
func number(width, n int) string {
	b := make([]byte, width)
	for i := range b {
		b[i] = byte(n >> (8 * (width - 1 - i)))
	}
	return string(b)
}

// torn is a sector with two stamps, be they the same or not, and whether or not they may be.
func torn(first, last int, body string) string {
	return number(6, first) + body + noughts(52-len(body)) + number(6, last)
}

func whole(stamp int, body string) string { return torn(stamp, stamp, body) }

// blank is a disk that was never written.
func blank(n int) disk.State {
	sectors := make([]string, n)
	for i := range sectors {
		sectors[i] = noughts(64)
	}
	return disk.State{Sectors: sectors, Fuse: -1}
}

// with is a disk like d, with other sectors from a place on, and lists of its own.
func with(d disk.State, at int, sectors ...string) disk.State {
	l := slices.Clone(d.Sectors)
	copy(l[at:], sectors)
	return disk.State{Sectors: l, Wait: slices.Clone(d.Wait), Fuse: d.Fuse}
}

// waits is a disk like d, on which a further write waits.
func waits(d disk.State, at int, sector string) disk.State {
	l := append(slices.Clone(d.Wait), disk.Write{At: at, Data: sector})
	return disk.State{Sectors: slices.Clone(d.Sectors), Wait: l, Fuse: d.Fuse}
}

// fused is a disk like d with another fuse.
func fused(d disk.State, fuse int) disk.State {
	return disk.State{Sectors: slices.Clone(d.Sectors), Wait: slices.Clone(d.Wait), Fuse: fuse}
}

// crowded is a disk like d, on which n writes wait, all of the last sector.
func crowded(d disk.State, n int) disk.State {
	l := make([]disk.Write, n)
	for i := range l {
		l[i] = disk.Write{At: len(d.Sectors) - 1, Data: strings.Repeat(string([]byte{'w', byte(i)}), 32)}
	}
	return disk.State{Sectors: slices.Clone(d.Sectors), Wait: l, Fuse: d.Fuse}
}

// bodiesOf are the bodies of a text, by the layer below.
func bodiesOf(t *testing.T, h sheaf.Head, text string) []string {
	t.Helper()
	l, e := sheaf.Lay(h, text)
	if e != api.OK {
		t.Fatalf("Lay(%v, a text of %d): %v", h, len(text), e)
	}
	return l
}

// sheetsOf are the sheets of a text, of rising stamps.
func sheetsOf(t *testing.T, h sheaf.Head, stamp int, text string) []string {
	t.Helper()
	var l []string
	for i, body := range bodiesOf(t, h, text) {
		l = append(l, whole(stamp+i, body))
	}
	return l
}

// inSlot is the head of what a slot has.
func inSlot(gen int) sheaf.Head { return sheaf.Head{Kind: 1, Gen: gen, No: 0} }

// noDisks are disks that may not be, though each has whole sheets of a text in both slots.
func noDisks(t *testing.T) map[string]disk.State {
	fine := with(blank(16), 0, sheetsOf(t, inSlot(3), 10, textOf(60))...)
	fine = with(fine, 4, sheetsOf(t, inSlot(4), 20, textOf(60))...)
	return map[string]disk.State{
		"zero":               {},
		"no sectors":         {Fuse: -1},
		"15 sectors":         {Sectors: fine.Sectors[:15], Fuse: -1},
		"513 sectors":        with(blank(513), 0, fine.Sectors...),
		"a fuse of -2":       fused(fine, -2),
		"a sector of 63":     with(fine, 15, noughts(63)),
		"a sector of 65":     with(fine, 15, noughts(65)),
		"1025 writes":        crowded(fine, 1025),
		"a write at -1":      waits(fine, -1, noughts(64)),
		"a write at 16":      waits(fine, 16, noughts(64)),
		"a write of 63":      waits(fine, 15, noughts(63)),
		"a write of nothing": waits(fine, 15, ""),
	}
}

func TestSizesAtTheirEdges(t *testing.T) { // P6.1
	for _, x := range []struct{ n, size, begin, room int }{
		{16, 4, 8, 140}, {17, 4, 8, 140}, {18, 4, 8, 140}, {19, 4, 8, 140},
		{20, 5, 10, 177}, {23, 5, 10, 177}, {24, 6, 12, 214},
		{63, 15, 30, 547}, {64, 16, 32, 584}, {100, 25, 50, 917},
		{507, 126, 252, 4654}, {508, 127, 254, 4691}, {511, 127, 254, 4691}, {512, 128, 256, 4728},
		{0, 0, 0, 0}, {1, 0, 0, 0}, {4, 0, 0, 0}, {12, 0, 0, 0}, {15, 0, 0, 0},
		{513, 0, 0, 0}, {516, 0, 0, 0}, {1024, 0, 0, 0}, {1<<32 + 16, 0, 0, 0},
		{-1, 0, 0, 0}, {-4, 0, 0, 0}, {-16, 0, 0, 0}, {-512, 0, 0, 0},
		{math.MinInt, 0, 0, 0}, {math.MinInt + 16, 0, 0, 0}, {math.MaxInt - 1, 0, 0, 0}, {math.MaxInt, 0, 0, 0},
	} {
		if size, begin, room := Size(x.n), Begin(x.n), Room(x.n); size != x.size || begin != x.begin || room != x.room {
			t.Errorf("%d sectors: %d, %d, %d, not %d, %d, %d", x.n, size, begin, room, x.size, x.begin, x.room)
		}
	}
}

func TestSizesOfEachDisk(t *testing.T) { // P6.1
	for n := range 600 {
		size := 0
		for n >= 16 && n <= 512 && 4*(size+1) <= n {
			size++
		}
		room := max(37*size-8, 0)
		if Size(n) != size || Begin(n) != size+size || Room(n) != room {
			t.Errorf("%d sectors: %d, %d, %d, not %d, %d, %d", n, Size(n), Begin(n), Room(n), size, size+size, room)
		}
	}
}

// A text of Room is just what a slot takes.
func TestASlotHasRoomForRoom(t *testing.T) { // P6.1, P6.5
	for _, n := range []int{16, 19, 20, 512} {
		for slot := range 2 {
			if _, _, e := Save(blank(n), slot, 1, 1, textOf(Room(n))); e != api.OK {
				t.Errorf("%d sectors, slot %d, a text of Room: %v", n, slot, e)
			}
			if _, _, e := Save(blank(n), slot, 1, 1, textOf(Room(n)+1)); e != api.ErrFull {
				t.Errorf("%d sectors, slot %d, a byte more than Room: %v", n, slot, e)
			}
		}
	}
}

func TestTopOfSheets(t *testing.T) { // P6.2
	d := blank(16)
	for name, x := range map[string]struct {
		d    disk.State
		want int
	}{
		"none":                              {d, 0},
		"none of 512":                       {blank(512), 0},
		"one, the first":                    {with(d, 0, whole(5, "a")), 5},
		"one, the last":                     {with(d, 15, whole(5, "a")), 5},
		"one of 512, the last":              {with(blank(512), 511, whole(1<<40, "a")), 1 << 40},
		"several":                           {with(d, 3, whole(5, "a"), whole(300, "b"), whole(7, "c")), 300},
		"several, the greatest first":       {with(d, 0, whole(300, "a"), whole(7, "b")), 300},
		"several, the greatest last":        {with(d, 14, whole(7, "a"), whole(300, "b")), 300},
		"the same twice":                    {with(d, 3, whole(5, "a"), whole(5, "b")), 5},
		"behind one that is not whole":      {with(d, 0, torn(8, 3, "a"), whole(9, "b")), 9},
		"one that is not whole":             {with(d, 2, whole(9, "b"), torn(10, 3, "a")), 10},
		"one that is not whole, at its end": {with(d, 2, whole(9, "b"), torn(3, 11, "a")), 11},
		"a stamp that may not be":           {with(d, 2, whole(9, "b"), whole(1<<40+1, "a")), 1<<40 + 1},
		"the greatest number":               {with(d, 2, torn(0, 1<<48-1, ""), whole(9, "")), 1<<48 - 1},
		"one that waits":                    {waits(with(d, 2, whole(9, "")), 3, whole(10, "")), 10},
		"one that waits over the greatest":  {waits(with(d, 2, whole(9, ""), whole(4, "")), 2, whole(3, "")), 4},
		"two that wait over one another":    {waits(waits(d, 2, whole(9, "")), 2, whole(3, "")), 3},
		"a fuse of 0":                       {fused(with(d, 2, whole(9, "")), 0), 9},
	} {
		if got := Top(x.d); got != x.want {
			t.Errorf("%s: %d, not %d", name, got, x.want)
		}
	}
	for name, d := range noDisks(t) {
		if got := Top(d); got != 0 {
			t.Errorf("%s: %d", name, got)
		}
	}
}

// call is what Pour is asked.
type call struct {
	d        disk.State
	from, to int
	h        sheaf.Head
	stamp    int
	text     string
}

// checkPour holds all that Pour answers against what it should.
func checkPour(t *testing.T, what string, c call, d disk.State, place, next int, e api.Errno) {
	t.Helper()
	a, b, n, f := Pour(c.d, c.from, c.to, c.h, c.stamp, c.text)
	if b != place || n != next || f != e {
		t.Errorf("%s: the place %d, the stamp %d, %v, not %d, %d, %v", what, b, n, f, place, next, e)
	}
	if !disk.Same(a, d) {
		t.Errorf("%s: another disk: %d writes wait, the fuse is %d", what, len(a.Wait), a.Fuse)
	}
}

// checkRefused: with such an error all is as it was.
func checkRefused(t *testing.T, what string, c call, e api.Errno) {
	t.Helper()
	checkPour(t, what, c, c.d, c.from, c.stamp, e)
}

func TestPourLaysSheets(t *testing.T) { // P6.3
	d := with(blank(16), 0, slices.Repeat([]string{whole(3, "old")}, 16)...)
	for _, n := range []int{0, 1, 29, 30, 66, 67, 103, 104, 584} {
		sheets := sheetsOf(t, someHead, 300, textOf(n))
		for from := 0; from+len(sheets) <= 16; from++ {
			for to := from + len(sheets); to <= 16; to++ { // as many sectors as bodies, and more
				want := with(d, from, sheets...)
				checkPour(t, "laid", call{d, from, to, someHead, 300, textOf(n)}, want, from+len(sheets), 300+len(sheets), api.OK)
			}
		}
	}
	long := sheetsOf(t, someHead, 1, textOf(16000))
	want := with(blank(512), 512-433, long...)
	checkPour(t, "the longest text", call{blank(512), 512 - 433, 512, someHead, 1, textOf(16000)}, want, 512, 434, api.OK)
}

func TestPourLaysEachHead(t *testing.T) { // P6.3
	for _, h := range []sheaf.Head{{Kind: 0, Gen: 1, No: 0}, {Kind: 1, Gen: 2, No: 3}, {Kind: 255, Gen: 1 << 40, No: 1<<32 - 1}} {
		want := with(blank(16), 2, sheetsOf(t, h, 9, textOf(40))...)
		checkPour(t, "a head", call{blank(16), 2, 16, h, 9, textOf(40)}, want, 4, 11, api.OK)
	}
}

func TestPourWrittenOut(t *testing.T) { // P6.3
	d, place, next, e := Pour(blank(16), 15, 16, sheaf.Head{Kind: 1, Gen: 0x0102030405, No: 0x06070809}, 258, "ab")
	stamp := "\x00\x00\x00\x00\x01\x02"
	head := "\x01" + "\x00\x01\x02\x03\x04\x05" + "\x06\x07\x08\x09"
	want := stamp + head + "\x00\x00\x00\x01" + "\x99\x40\x19\xff" + "\x00\x00\x00\x02" + "ab" + noughts(27) + stamp
	if d.Sectors[15] != want || place != 16 || next != 259 || e != api.OK {
		t.Errorf("%q, %d, %d, %v, not %q", d.Sectors[15], place, next, e, want)
	}
}

func TestPourWithStampsAtTheirEdges(t *testing.T) { // P6.3
	const most = 1 << 40
	for _, x := range []struct{ bytes, stamp int }{
		{0, 1}, {0, 2}, {0, most - 1}, {0, most}, {30, 1}, {30, most - 2}, {30, most - 1}, {67, 1}, {67, most - 2},
	} {
		sheets := sheetsOf(t, someHead, x.stamp, textOf(x.bytes))
		want := with(blank(16), 1, sheets...)
		checkPour(t, "a stamp", call{blank(16), 1, 16, someHead, x.stamp, textOf(x.bytes)}, want, 1+len(sheets), x.stamp+len(sheets), api.OK)
	}
	for _, x := range []struct{ bytes, stamp int }{
		{0, 0}, {0, -1}, {0, math.MinInt}, {0, most + 1}, {0, 1 << 48}, {0, 1<<48 + 1}, {0, math.MaxInt},
		{30, 0}, {30, -1}, {30, most}, {30, most + 1}, {30, math.MaxInt - 1}, {30, math.MaxInt}, {30, math.MinInt},
		{67, most - 1}, {67, most}, {67, math.MaxInt - 1}, {103, most - 1}, {103, 0},
	} {
		checkRefused(t, "a stamp that may not be", call{blank(16), 1, 16, someHead, x.stamp, textOf(x.bytes)}, api.ErrRange)
	}
}

// noStretches are stretches of 16 sectors that may not be.
func noStretches() [][2]int {
	return [][2]int{
		{-1, 16}, {-1, -1}, {-1, 0}, {math.MinInt, 16}, {math.MinInt, math.MinInt}, {math.MinInt, math.MaxInt},
		{1, 0}, {9, 8}, {16, 15}, {16, 0}, {17, 16}, {math.MaxInt, 16}, {16, math.MinInt}, {math.MaxInt, math.MinInt},
		{0, 17}, {16, 17}, {17, 17}, {17, 18}, {0, 512}, {0, math.MaxInt}, {16, math.MaxInt}, {math.MaxInt, math.MaxInt},
	}
}

func TestPourRefusesDisksAndStretches(t *testing.T) { // P6.3
	for name, d := range noDisks(t) {
		for _, x := range [][2]int{{0, 16}, {0, 4}, {0, 0}, {0, len(d.Sectors)}, {4, 3}} {
			checkRefused(t, name, call{d, x[0], x[1], someHead, 5, "a"}, api.ErrArg)
			checkRefused(t, name+", and no head", call{d, x[0], x[1], sheaf.Head{}, 0, textOf(16001)}, api.ErrArg)
		}
	}
	for _, x := range noStretches() {
		checkRefused(t, "a stretch", call{blank(16), x[0], x[1], someHead, 5, "a"}, api.ErrArg)
		checkRefused(t, "a stretch, and the power gone", call{fused(blank(16), 0), x[0], x[1], someHead, 5, "a"}, api.ErrArg)
	}
}

func TestPourRefusesWhatLayRefuses(t *testing.T) { // P6.3
	for _, h := range []sheaf.Head{{}, {Kind: 1}, {Gen: -1}, {Gen: 1<<40 + 1}, {Gen: 1, No: -1}, {Gen: 1, No: 1 << 32}} {
		checkRefused(t, "a head", call{blank(16), 0, 16, h, 5, "a"}, api.ErrRange)
		checkRefused(t, "a head, and a text", call{blank(16), 0, 16, h, 5, textOf(16001)}, api.ErrRange)
	}
	for _, n := range []int{16001, 16002, 20000} {
		checkRefused(t, "a long text", call{blank(512), 0, 512, someHead, 5, textOf(n)}, api.ErrLong)
	}
}

func TestPourRefusesAShortStretch(t *testing.T) { // P6.3
	for _, n := range []int{0, 29, 30, 66, 67, 103, 104, 500} {
		parts := sheaf.Count(n)
		for from := 0; from+parts-1 <= 16; from++ {
			for to := from; to < from+parts; to++ { // an empty one, and one fewer than bodies
				checkRefused(t, "a short one", call{blank(16), from, to, someHead, 5, textOf(n)}, api.ErrFull)
			}
		}
	}
	checkRefused(t, "a long text", call{blank(512), 0, 432, someHead, 5, textOf(16000)}, api.ErrFull)
	checkRefused(t, "a long text, all of a disk", call{blank(16), 0, 16, someHead, 5, textOf(16000)}, api.ErrFull)
}

// Each one is wrong in all that stands behind its own error, too.
func TestPourTellsTheFirstOfSeveralErrors(t *testing.T) { // P6.3
	down, full := fused(blank(16), 0), fused(crowded(blank(16), 1024), 0)
	for _, x := range []struct {
		what string
		c    call
		e    api.Errno
	}{
		{"a stretch ahead of all", call{down, 3, 2, sheaf.Head{}, 0, textOf(16001)}, api.ErrArg},
		{"a stretch ahead of a long text", call{down, 0, 17, someHead, 0, textOf(16001)}, api.ErrArg},
		{"a stretch ahead of a stamp", call{blank(16), -1, 16, someHead, 0, "a"}, api.ErrArg},
		{"a head ahead of a short stretch", call{down, 2, 2, sheaf.Head{}, 0, "a"}, api.ErrRange},
		{"a long text ahead of a short stretch", call{down, 2, 2, someHead, 0, textOf(16001)}, api.ErrLong},
		{"a long text ahead of a stamp", call{down, 0, 16, someHead, 1<<40 + 1, textOf(16001)}, api.ErrLong},
		{"a short stretch ahead of a low stamp", call{down, 2, 2, someHead, 0, ""}, api.ErrFull},
		{"a short stretch ahead of a high stamp", call{down, 2, 3, someHead, 1 << 40, textOf(30)}, api.ErrFull},
		{"a stamp ahead of the power", call{down, 2, 3, someHead, 0, ""}, api.ErrRange},
		{"a high stamp ahead of the power", call{down, 2, 4, someHead, 1 << 40, textOf(30)}, api.ErrRange},
		{"a stamp ahead of too many writes", call{crowded(blank(16), 1024), 2, 3, someHead, 0, ""}, api.ErrRange},
		{"the power ahead of too many writes", call{full, 2, 3, someHead, 1, ""}, api.ErrDown},
	} {
		checkRefused(t, x.what, x.c, x.e)
	}
}

// asPut is a disk like d, on which the first n of some sheets wait.
func asPut(d disk.State, from int, sheets []string, n int) disk.State {
	for i, s := range sheets[:n] {
		d = waits(d, from+i, s)
		if d.Fuse > 0 {
			d.Fuse--
		}
	}
	return d
}

func TestPourAsThePowerGoes(t *testing.T) { // P6.3
	for _, n := range []int{0, 29, 30, 67, 140} {
		sheets := sheetsOf(t, someHead, 300, textOf(n))
		for fuse := range len(sheets) + 1 { // at each put, and at the flush
			for name, d := range map[string]disk.State{"a blank": fused(blank(16), fuse), "writes wait": fused(crowded(blank(16), 7), fuse)} {
				checkPour(t, name, call{d, 5, 16, someHead, 300, textOf(n)}, asPut(d, 5, sheets, fuse), 5, 300, api.ErrDown)
			}
		}
		for more := range 3 {
			d := fused(blank(16), len(sheets)+1+more)
			want := fused(with(d, 5, sheets...), more)
			checkPour(t, "power enough", call{d, 5, 16, someHead, 300, textOf(n)}, want, 5+len(sheets), 300+len(sheets), api.OK)
		}
	}
}

func TestPourAsTooManyWritesWait(t *testing.T) { // P6.3
	for _, n := range []int{0, 29, 30, 67, 140} {
		sheets := sheetsOf(t, someHead, 300, textOf(n))
		for room := range len(sheets) {
			d := crowded(blank(16), 1024-room)
			checkPour(t, "too many", call{d, 5, 15, someHead, 300, textOf(n)}, asPut(d, 5, sheets, room), 5, 300, api.ErrMany)
		}
		d := crowded(blank(16), 1024-len(sheets)) // they go with the flush, ahead of the sheets
		want := with(blank(16), 15, d.Wait[len(d.Wait)-1].Data)
		checkPour(t, "just enough", call{d, 5, 15, someHead, 300, textOf(n)}, with(want, 5, sheets...), 5+len(sheets), 300+len(sheets), api.OK)
	}
}

// What waits in the stretch goes first, so that the sheets stand over it.
func TestPourOverWritesThatWait(t *testing.T) { // P6.3
	d := waits(waits(blank(16), 2, whole(8, "a")), 4, whole(9, "b"))
	sheets := sheetsOf(t, someHead, 10, textOf(40))
	want := with(with(blank(16), 4, whole(9, "b")), 2, sheets...)
	checkPour(t, "writes wait", call{d, 2, 5, someHead, 10, textOf(40)}, want, 4, 12, api.OK)
}

func checkDrain(t *testing.T, what string, d disk.State, from, to int, want ...string) {
	t.Helper()
	if got := Drain(d, from, to); !slices.Equal(got, want) {
		t.Errorf("%s: %q, not %q", what, got, want)
	}
}

func filled(body string) string { return body + noughts(52-len(body)) }

func TestDrain(t *testing.T) { // P6.4
	a, b, c := whole(5, "a"), whole(1<<40, "b"), whole(1, "")
	fa, fb, fc := filled("a"), filled("b"), noughts(52)
	long := textOf(52)
	for name, x := range map[string]struct {
		sectors []string
		want    []string
	}{
		"no sheet":           {nil, nil},
		"whole ones":         {[]string{a, b, c}, []string{fa, fb, fc}},
		"stamps that fall":   {[]string{b, a, a, c}, []string{fb, fa, fa, fc}},
		"a body of 52":       {[]string{whole(7, long), a}, []string{long, fa}},
		"one not whole":      {[]string{torn(6, 5, "a")}, nil},
		"ahead of whole":     {[]string{torn(6, 5, "a"), a, b}, nil},
		"between whole ones": {[]string{a, torn(6, 5, "x"), b, c}, []string{fa}},
		"behind whole ones":  {[]string{a, b, torn(5, 6, "x")}, []string{fa, fb}},
		"a blank between":    {[]string{a, noughts(64), b}, []string{fa}},
		"a great stamp":      {[]string{a, whole(1<<40+1, "x"), b}, []string{fa}},
		"two not whole":      {[]string{a, torn(6, 5, "x"), b, torn(6, 5, "x")}, []string{fa}},
	} {
		for _, from := range []int{0, 5, 11} {
			d := with(blank(16), from, x.sectors...)
			checkDrain(t, name, d, from, 16, x.want...)
			for n := range x.want { // a shorter stretch has fewer
				checkDrain(t, name+", a shorter stretch", d, from, from+n, x.want[:n]...)
				checkDrain(t, name+", from further on", d, from+n, 16, x.want[n:]...)
			}
			checkDrain(t, name+", on a disk without power", fused(d, 0), from, 16, x.want...)
		}
	}
	all := with(blank(16), 0, slices.Repeat([]string{a}, 16)...)
	checkDrain(t, "all of a disk", all, 0, 16, slices.Repeat([]string{fa}, 16)...)
	checkDrain(t, "what waits", waits(waits(with(blank(16), 2, a), 3, b), 2, c), 2, 9, fc, fb)
	checkDrain(t, "what waits is not whole", waits(with(blank(16), 2, a, b), 3, torn(6, 5, "x")), 2, 9, fa)
}

func TestDrainOfWhatMayNotBe(t *testing.T) { // P6.4
	for name, d := range noDisks(t) {
		for _, x := range [][2]int{{0, 16}, {0, 4}, {4, 8}, {0, 1}, {0, 0}, {0, len(d.Sectors)}} {
			checkDrain(t, name, d, x[0], x[1])
		}
	}
	d := with(blank(16), 0, slices.Repeat([]string{whole(5, "a")}, 16)...)
	for _, x := range noStretches() {
		checkDrain(t, "a stretch", d, x[0], x[1])
	}
	for at := range 17 {
		checkDrain(t, "an empty one", d, at, at)
	}
}

func TestTheExample(t *testing.T) { // P6.1
	d, _ := disk.New(16)
	n := len(d.Sectors)
	if Size(n) != 4 || Begin(n) != 8 || Room(n) != 140 {
		t.Error(Size(n), Begin(n), Room(n))
	}
}
