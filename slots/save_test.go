package slots

import (
	"math"
	"slices"
	"testing"

	"errand/api"
	"errand/disk"
	"errand/sheaf"
)

// checkSave holds all that Save answers against what it should.
func checkSave(t *testing.T, what string, d disk.State, slot, gen, stamp int, text string, want disk.State, next int, e api.Errno) {
	t.Helper()
	a, n, f := Save(d, slot, gen, stamp, text)
	if n != next || f != e {
		t.Errorf("%s, slot %d: the stamp %d, %v, not %d, %v", what, slot, n, f, next, e)
	}
	if !disk.Same(a, want) {
		t.Errorf("%s, slot %d: another disk: %d writes wait, the fuse is %d", what, slot, len(a.Wait), a.Fuse)
	}
}

func TestSaveIsPourIntoASlot(t *testing.T) { // P6.5
	for _, n := range []int{16, 17, 19, 20, 512} {
		for slot := range 2 {
			for _, bytes := range []int{0, 29, 30, 140, Room(n)} {
				d := with(blank(n), 0, slices.Repeat([]string{whole(3, "old")}, n)...)
				sheets := sheetsOf(t, inSlot(258), 300, textOf(bytes))
				want := with(d, slot*Size(n), sheets...)
				checkSave(t, "a text", d, slot, 258, 300, textOf(bytes), want, 300+len(sheets), api.OK)
			}
		}
	}
	want := with(blank(16), 4, whole(1<<40, bodiesOf(t, inSlot(1<<40), "a")[0]))
	checkSave(t, "the greatest numbers", blank(16), 1, 1<<40, 1<<40, "a", want, 1<<40+1, api.OK)
	want = with(blank(16), 0, whole(1, bodiesOf(t, inSlot(1), "a")[0]))
	checkSave(t, "the least numbers", blank(16), 0, 1, 1, "a", want, 2, api.OK)
}

func TestSaveRefuses(t *testing.T) { // P6.5
	d := with(blank(16), 0, whole(3, "old"))
	for _, slot := range []int{math.MinInt, -2, -1, 2, 3, 4, 256, 1 << 32, math.MaxInt} {
		checkSave(t, "a slot", d, slot, 258, 300, "a", d, 300, api.ErrArg)
		checkSave(t, "a slot, and all else", fused(d, 0), slot, 0, 0, textOf(16001), fused(d, 0), 0, api.ErrArg)
	}
	for slot := range 2 {
		for name, no := range noDisks(t) {
			checkSave(t, name, no, slot, 258, 300, "a", no, 300, api.ErrArg)
			checkSave(t, name+", and all else", no, slot, 0, -5, textOf(16001), no, -5, api.ErrArg)
		}
		down := fused(d, 0)
		for _, gen := range []int{math.MinInt, -1, 0, 1<<40 + 1, math.MaxInt} {
			checkSave(t, "a generation", down, slot, gen, 0, textOf(16001), down, 0, api.ErrRange)
		}
		checkSave(t, "a long text", down, slot, 258, 0, textOf(16001), down, 0, api.ErrLong)
		checkSave(t, "a text of five sectors", down, slot, 258, 0, textOf(141), down, 0, api.ErrFull)
		checkSave(t, "a stamp of 0", down, slot, 258, 0, textOf(140), down, 0, api.ErrRange)
		checkSave(t, "a stamp too great", down, slot, 258, 1<<40-2, textOf(140), down, 1<<40-2, api.ErrRange)
		checkSave(t, "a power that is gone", down, slot, 258, 300, textOf(140), down, 300, api.ErrDown)
	}
}

func TestSaveAsThePowerGoes(t *testing.T) { // P6.5
	for slot := range 2 {
		sheets := sheetsOf(t, inSlot(258), 300, textOf(140))
		for fuse := range len(sheets) + 1 {
			d := fused(crowded(blank(16), 3), fuse)
			checkSave(t, "a fuse", d, slot, 258, 300, textOf(140), asPut(d, slot*4, sheets, fuse), 300, api.ErrDown)
		}
		for room := range len(sheets) {
			d := crowded(blank(16), 1024-room)
			checkSave(t, "writes that wait", d, slot, 258, 300, textOf(140), asPut(d, slot*4, sheets, room), 300, api.ErrMany)
		}
	}
}

func checkLoad(t *testing.T, what string, d disk.State, slot int, want Snap, e api.Errno) {
	t.Helper()
	if got, f := Load(d, slot); got != want || f != e {
		t.Errorf("%s, slot %d: %v, %v, not %v, %v", what, slot, got, f, want, e)
	}
}

func TestLoadOfWhatWasSaved(t *testing.T) { // P6.5
	for _, n := range []int{16, 17, 20, 512} {
		for slot := range 2 {
			for _, bytes := range []int{0, 1, 29, 30, 140, Room(n)} {
				for _, text := range []string{textOf(bytes), noughts(bytes)} {
					for _, gen := range []int{1, 258, 1 << 40} {
						d, _, e := Save(blank(n), slot, gen, 300, text)
						if e != api.OK {
							t.Fatalf("Save: %v", e)
						}
						checkLoad(t, "saved", d, slot, Snap{Gen: gen, Text: text}, api.OK)
						checkLoad(t, "the other one", d, 1-slot, Snap{}, api.ErrNone)
						checkLoad(t, "saved, without power", fused(d, 0), slot, Snap{Gen: gen, Text: text}, api.OK)
					}
				}
			}
		}
	}
}

// What stands in the slot behind the text's own sheets is nothing, be it whole or not, and so is what lies outside.
func TestLoadLooksAtItsOwnSheetsAlone(t *testing.T) { // P6.5
	for slot := range 2 {
		for _, behind := range []string{noughts(64), whole(9, ""), whole(9, textOf(52)), torn(9, 8, "x"), whole(1<<40+1, "x")} {
			d := with(blank(16), 0, slices.Repeat([]string{behind}, 16)...)
			d = with(d, slot*4, sheetsOf(t, inSlot(5), 10, textOf(60))...)
			checkLoad(t, "others around", d, slot, Snap{Gen: 5, Text: textOf(60)}, api.OK)
		}
		over := with(blank(16), slot*4, sheetsOf(t, inSlot(5), 10, textOf(140))...)
		over = with(over, slot*4, sheetsOf(t, inSlot(6), 14, "b")...)
		checkLoad(t, "a longer one is behind", over, slot, Snap{Gen: 6, Text: "b"}, api.OK)
	}
	// A text of more sectors than a slot has goes on into what lies behind, where it is no text of the slot.
	long := with(blank(16), 0, sheetsOf(t, inSlot(5), 10, textOf(141))...)
	checkLoad(t, "five sheets", long, 0, Snap{}, api.ErrCut)
}

func TestLoadOfWhatWaits(t *testing.T) { // P6.5
	d := with(blank(16), 4, sheetsOf(t, inSlot(5), 10, "a")...)
	d = waits(d, 4, sheetsOf(t, inSlot(6), 11, "b")[0])
	checkLoad(t, "a sheet that waits", d, 1, Snap{Gen: 6, Text: "b"}, api.OK)
	checkLoad(t, "one that is not whole waits", waits(d, 4, torn(12, 11, "x")), 1, Snap{}, api.ErrNone)
}

// spoilt is what a slot may have that tells an error.
type spoilt struct {
	sheets []string
	e      api.Errno
}

// turned is a list of sheets with another one at a place.
func turned(sheets []string, at int, s string) []string {
	l := slices.Clone(sheets)
	l[at] = s
	return l
}

// bodyTurned is a sheet with some bytes of its body, from a place on, turned into others.
func bodyTurned(s string, at int, other string) string {
	return s[:6+at] + other + s[6+at+len(other):]
}

func spoiltSlots(t *testing.T) map[string]spoilt {
	fine := sheetsOf(t, inSlot(5), 10, textOf(100)) // three sheets
	other := sheetsOf(t, inSlot(6), 20, textOf(100))
	kind2 := sheetsOf(t, sheaf.Head{Kind: 2, Gen: 5}, 10, textOf(100))
	number1 := sheetsOf(t, sheaf.Head{Kind: 1, Gen: 5, No: 1}, 10, textOf(100))
	return map[string]spoilt{
		"nothing":                      {nil, api.ErrNone},
		"none at the first place":      {turned(fine, 0, noughts(64)), api.ErrNone},
		"the first one not whole":      {turned(fine, 0, torn(11, 10, fine[0][6:58])), api.ErrNone},
		"the first of stamps of 0":     {turned(fine, 0, whole(0, fine[0][6:58])), api.ErrNone},
		"no generation":                {turned(fine, 0, bodyTurned(fine[0], 1, noughts(6))), api.ErrRange},
		"a great generation":           {turned(fine, 0, bodyTurned(fine[0], 1, number(6, 1<<40+1))), api.ErrRange},
		"no parts":                     {turned(fine, 0, bodyTurned(fine[0], 13, noughts(2))), api.ErrRange},
		"a place that is none":         {turned(fine, 0, bodyTurned(fine[0], 11, number(2, 3))), api.ErrRange},
		"a body of bytes 0":            {turned(fine, 0, whole(10, "")), api.ErrRange},
		"the kind 0":                   {sheetsOf(t, sheaf.Head{Kind: 0, Gen: 5}, 10, textOf(100)), api.ErrKind},
		"the kind 2":                   {kind2, api.ErrKind},
		"the kind 255":                 {sheetsOf(t, sheaf.Head{Kind: 255, Gen: 5}, 10, "a"), api.ErrKind},
		"the number 1":                 {number1, api.ErrKind},
		"the greatest number":          {sheetsOf(t, sheaf.Head{Kind: 1, Gen: 5, No: 1<<32 - 1}, 10, "a"), api.ErrKind},
		"another kind and number":      {sheetsOf(t, sheaf.Head{Kind: 2, Gen: 5, No: 1}, 10, "a"), api.ErrKind},
		"another kind, then a cut":     {kind2[:1], api.ErrKind},
		"another number, then a cut":   {number1[:2], api.ErrKind},
		"another kind at the second":   {turned(fine, 1, kind2[1]), api.ErrState},
		"another number at the third":  {turned(fine, 2, number1[2]), api.ErrState},
		"the second of another one":    {turned(fine, 1, other[1]), api.ErrState},
		"the first of another one":     {turned(fine, 0, other[0]), api.ErrState},
		"the last one missing":         {fine[:2], api.ErrCut},
		"the first one alone":          {fine[:1], api.ErrCut},
		"the second one not whole":     {turned(fine, 1, torn(12, 11, fine[1][6:58])), api.ErrCut},
		"the third one not whole":      {turned(fine, 2, torn(13, 12, fine[2][6:58])), api.ErrCut},
		"two of them by turns":         {[]string{fine[0], fine[2], fine[1]}, api.ErrForm},
		"the second one first":         {fine[1:], api.ErrForm},
		"another number of parts":      {turned(fine, 1, bodyTurned(fine[1], 13, number(2, 4))), api.ErrForm},
		"the second of no generation":  {turned(fine, 1, whole(11, "")), api.ErrRange},
		"a byte of the text":           {turned(fine, 1, bodyTurned(fine[1], 20, "\x00")), api.ErrSum},
		"a byte behind the text":       {turned(fine, 2, bodyTurned(fine[2], 51, "\x01")), api.ErrSum},
		"a sum":                        {turned(fine, 0, bodyTurned(fine[0], 15, "\x00")), api.ErrSum},
		"no parts, and the kind 2":     {turned(kind2, 0, bodyTurned(kind2[0], 13, noughts(2))), api.ErrRange},
		"no generation, and a number":  {turned(number1, 0, bodyTurned(number1[0], 1, noughts(6))), api.ErrRange},
		"the kind 2, and not its sum":  {turned(kind2, 1, bodyTurned(kind2[1], 20, "\x00")), api.ErrKind},
		"the kind 2, at another place": {kind2[1:], api.ErrKind},
	}
}

func TestLoadTellsWhatIsWrong(t *testing.T) { // P6.5
	for name, x := range spoiltSlots(t) {
		for slot := range 2 {
			for _, n := range []int{16, 19, 512} {
				d := with(blank(n), slot*Size(n), x.sheets...)
				checkLoad(t, name, d, slot, Snap{}, x.e)
				checkLoad(t, name+", the other one", d, 1-slot, Snap{}, api.ErrNone)
			}
		}
	}
}

func TestLoadRefuses(t *testing.T) { // P6.5
	for name, d := range noDisks(t) {
		for _, slot := range []int{math.MinInt, -1, 0, 1, 2, math.MaxInt} {
			checkLoad(t, name, d, slot, Snap{}, api.ErrArg)
		}
	}
	fine := with(blank(16), 0, slices.Repeat(sheetsOf(t, inSlot(5), 10, textOf(140)), 4)...)
	for _, slot := range []int{math.MinInt, -2, -1, 2, 3, 4, 256, 1 << 32, 1<<62 - 1, 1 << 62, math.MaxInt} {
		checkLoad(t, "a slot", fine, slot, Snap{}, api.ErrArg)
		checkLoad(t, "a slot of a blank", blank(16), slot, Snap{}, api.ErrArg)
	}
}

func checkBest(t *testing.T, what string, d disk.State, slot int, want Snap, e api.Errno) {
	t.Helper()
	if s, got, f := Best(d); s != slot || got != want || f != e {
		t.Errorf("%s: slot %d, %v, %v, not slot %d, %v, %v", what, s, got, f, slot, want, e)
	}
}

// both is a disk with a text of a generation in each slot; of the generation 0: none.
func both(t *testing.T, n, first, second int) disk.State {
	d := blank(n)
	if first > 0 {
		d = with(d, 0, sheetsOf(t, inSlot(first), 10, "first")...)
	}
	if second > 0 {
		d = with(d, Size(n), sheetsOf(t, inSlot(second), 5, textOf(100))...)
	}
	return d
}

func TestBest(t *testing.T) { // P6.6
	for _, n := range []int{16, 19, 20, 512} {
		for _, x := range []struct {
			first, second, slot int
			e                   api.Errno
		}{
			{0, 0, 0, api.ErrNone},
			{1, 0, 0, api.OK}, {0, 1, 1, api.OK}, {1 << 40, 0, 0, api.OK}, {0, 1 << 40, 1, api.OK},
			{1, 2, 1, api.OK}, {2, 1, 0, api.OK}, {255, 256, 1, api.OK}, {256, 255, 0, api.OK},
			{1<<40 - 1, 1 << 40, 1, api.OK}, {1 << 40, 1, 0, api.OK},
			{1, 1, 0, api.OK}, {7, 7, 0, api.OK}, {1 << 40, 1 << 40, 0, api.OK},
		} {
			want := Snap{}
			if x.e == api.OK {
				want = [2]Snap{{Gen: x.first, Text: "first"}, {Gen: x.second, Text: textOf(100)}}[x.slot]
			}
			checkBest(t, "both", both(t, n, x.first, x.second), x.slot, want, x.e)
		}
	}
}

// A slot that is spoilt is not told, whatever generation stood there.
func TestBestAmongSpoiltOnes(t *testing.T) { // P6.6
	told := Snap{Gen: 2, Text: "b"}
	for name, x := range spoiltSlots(t) {
		for slot := range 2 {
			alone := with(blank(16), slot*4, x.sheets...)
			checkBest(t, name, alone, 0, Snap{}, api.ErrNone)
			checkBest(t, name, with(alone, 4-slot*4, sheetsOf(t, inSlot(2), 1, "b")...), 1-slot, told, api.OK)
			checkBest(t, name+", twice", with(alone, 4-slot*4, x.sheets...), 0, Snap{}, api.ErrNone)
		}
	}
	for name, d := range noDisks(t) {
		checkBest(t, name, d, 0, Snap{}, api.ErrArg)
	}
	checkBest(t, "no sheets, without power", fused(blank(16), 0), 0, Snap{}, api.ErrNone)
}

func TestBestOfWhatIsSavedByTurns(t *testing.T) { // P6.5, P6.6
	d, stamp := blank(20), 1
	for gen := 1; gen < 50; gen++ {
		text := textOf(gen * 7 % 178)
		after, next, e := Save(d, gen%2, gen, stamp, text)
		if e != api.OK || Top(after) != next-1 {
			t.Fatalf("Save of the generation %d: the next stamp %d, Top %d, %v", gen, next, Top(after), e)
		}
		checkBest(t, "by turns", after, gen%2, Snap{Gen: gen, Text: text}, api.OK)
		d, stamp = after, next
	}
}
