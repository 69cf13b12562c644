package store_test

import (
	"slices"
	"strings"
	"testing"

	"errand/api"
	"errand/disk"
	"errand/sheaf"
)

func TestOpenOfDisksThatMayNotBe(t *testing.T) { // P8.1
	for name, d := range noDisks() {
		checkNotOpened(t, name, d, api.ErrArg)
	}
}

func TestOpenOfANewDisk(t *testing.T) { // P8.1
	for _, x := range [][2]int{{16, 8}, {17, 8}, {19, 8}, {20, 10}, {23, 10}, {24, 12}, {511, 254}, {512, 256}} {
		want := rest{slot: 1, stamp: 1, at: x[1]}
		checkOpen(t, "a new one", blank(x[0]), want, "")
		checkOpen(t, "a new one without power", fused(blank(x[0]), 0), want, "")
		checkOpen(t, "a new one with a great fuse", fused(blank(x[0]), 1<<40), want, "")
	}
	checkOpen(t, "writes of bytes 0", crowded(blank(16), 1024), rest{slot: 1, stamp: 1, at: 8}, "")
}

func TestOpenOfOneSlot(t *testing.T) { // P8.1
	for _, n := range []int{16, 17, 19, 20, 512} {
		for slot := range 2 {
			for _, size := range []int{0, 1, 29, 30, 66, 140} {
				for _, x := range []struct{ gen, stamp int }{{1, 1}, {5, 5}, {1, 700}, {700, 1}, {1 << 40, 3}, {7, 1<<40 - 5}} {
					sheets := slotOf(x.gen, x.stamp, textOf(size))
					d := laid(blank(n), slot*(n/4), sheets...)
					want := rest{slot: slot, gen: x.gen, stamp: x.stamp + len(sheets), at: n / 4 * 2}
					checkOpen(t, "one slot", d, want, textOf(size))
				}
			}
		}
	}
}

func TestOpenOfBothSlots(t *testing.T) { // P8.1
	for _, x := range []struct {
		gens, stamps [2]int
		slot, top    int
	}{
		{[2]int{4, 5}, [2]int{4, 5}, 1, 5},
		{[2]int{5, 4}, [2]int{5, 4}, 0, 5},
		{[2]int{4, 5}, [2]int{9, 6}, 1, 9},
		{[2]int{5, 4}, [2]int{6, 9}, 0, 9},
		{[2]int{5, 5}, [2]int{4, 5}, 0, 5},
		{[2]int{5, 5}, [2]int{5, 4}, 0, 5},
		{[2]int{255, 256}, [2]int{255, 256}, 1, 256},
		{[2]int{1 << 40, 1<<40 - 1}, [2]int{3, 4}, 0, 4},
		{[2]int{1, 1 << 32}, [2]int{3, 4}, 1, 4},
	} {
		texts := [2]string{"first", "second"}
		d := laid(blank(16), 0, slotOf(x.gens[0], x.stamps[0], texts[0])...)
		d = laid(d, 4, slotOf(x.gens[1], x.stamps[1], texts[1])...)
		checkOpen(t, "both", d, rest{slot: x.slot, gen: x.gens[x.slot], stamp: x.top + 1, at: 8}, texts[x.slot])
		for slot, gen := range x.gens { // records of the one or the other
			behind := laid(d, 8, rowOf(gen, 2, "a", textOf(40))...)
			want, records := rest{slot: x.slot, gen: x.gens[x.slot], stamp: max(x.top, 4) + 1, at: 8}, []string(nil)
			if slot == x.slot || gen == x.gens[x.slot] {
				want.at, want.no, records = 11, 2, []string{"a", textOf(40)}
			}
			checkOpen(t, "both, and records", behind, want, texts[x.slot], records...)
		}
	}
}

// The slot of the greater generation is spoilt in each of its sheets: the other one is told, and its records, too.
func TestOpenOfASlotThatIsNotWhole(t *testing.T) { // P8.1
	text := textOf(60)
	bad := map[string]func(s string) string{
		"bytes 0":                 func(string) string { return strings.Repeat("\x00", 64) },
		"not whole":               func(s string) string { return turned(s, 63, 1) },
		"the kind 2":              func(s string) string { return turned(s, 6, 3) },
		"the number 1":            func(s string) string { return turned(s, 16, 1) },
		"another generation":      func(s string) string { return turned(s, 12, 2) },
		"no generation":           func(s string) string { return turned(s, 12, 9) },
		"another place":           func(s string) string { return turned(s, 18, 1) },
		"another number of parts": func(s string) string { return turned(s, 20, 1) },
		"another byte":            func(s string) string { return turned(s, 40, 8) },
	}
	for slot := range 2 {
		other := 1 - slot
		fine := laid(laid(blank(16), slot*4, slotOf(9, 9, text)...), other*4, slotOf(4, 4, "old")...)
		row := rowOf(9, 11, "x", "y")
		checkOpen(t, "both whole", laid(fine, 8, row...), rest{slot: slot, gen: 9, stamp: 13, at: 10, no: 2}, text, "x", "y")
		for name, spoil := range bad {
			for i := range 2 {
				d := like(fine)
				d.Sectors[slot*4+i] = spoil(d.Sectors[slot*4+i])
				want := rest{slot: other, gen: 4, stamp: 13, at: 8}
				checkOpen(t, name+", and records of it", laid(d, 8, row...), want, "old")
				older := laid(d, 8, rowOf(4, 11, textOf(30), "z")...)
				checkOpen(t, name+", and records of the other one", older, rest{slot: other, gen: 4, stamp: 14, at: 11, no: 2}, "old", textOf(30), "z")
				alone := laid(older, other*4, strings.Repeat("\x00", 64))
				checkOpen(t, name+", and no other one", alone, rest{slot: 1, stamp: 14, at: 8}, "")
			}
		}
	}
}

func TestOpenOfRecords(t *testing.T) { // P8.1
	for _, n := range []int{16, 19, 20, 512} {
		begin := n / 4 * 2
		for _, records := range [][]string{
			{""}, {"a"}, {textOf(30)}, {"", ""}, {"a", "a", "a"}, {textOf(60), "b"}, {"b", textOf(60), "\x00"}, {textOf(288)}, slices.Repeat([]string{"x"}, 8),
		} {
			row := rowOf(6, 6, records...)
			for slot := range 2 {
				d := laid(laid(blank(n), slot*(n/4), slotOf(6, 5, "all")...), begin, row...)
				want := rest{slot: slot, gen: 6, stamp: 6 + len(row), at: begin + len(row), no: len(records)}
				checkOpen(t, "records", d, want, "all", records...)
				checkOpen(t, "records that wait", waiting(laid(blank(n), slot*(n/4), slotOf(6, 5, "all")...), begin, row...), want, "all", records...)
			}
		}
	}
}

func TestOpenOfRecordsOfAnotherGeneration(t *testing.T) { // P8.1
	saved := laid(blank(16), 4, slotOf(6, 5, "all")...)
	for _, gen := range []int{1, 4, 5, 7, 262, 6 + 1<<32, 1 << 40} {
		d := laid(saved, 8, rowOf(gen, 30, "a", "b")...)
		checkOpen(t, "of another one only", d, rest{slot: 1, gen: 6, stamp: 32, at: 8}, "all")
		ahead := laid(d, 8, recordOf(6, 0, 40, "c")...)
		checkOpen(t, "one of it over the first", ahead, rest{slot: 1, gen: 6, stamp: 41, at: 9, no: 1}, "all", "c")
		behind := laid(d, 9, recordOf(6, 0, 40, "c")...)
		checkOpen(t, "one of it behind the first", behind, rest{slot: 1, gen: 6, stamp: 41, at: 8}, "all")
		none := laid(blank(16), 8, rowOf(gen, 30, "a", "b")...)
		checkOpen(t, "of another one, and no slot", none, rest{slot: 1, stamp: 32, at: 8}, "")
	}
}

// A body of no generation is no record of the generation that a disk without a slot has.
func TestOpenOfRecordsOfNoGeneration(t *testing.T) { // P8.1
	body := recordOf(1, 0, 1, "a")[0][6:58]
	d := laid(blank(16), 8, sealed(30, turned(body, 6, 1)))
	checkOpen(t, "no generation", d, rest{slot: 1, stamp: 31, at: 8}, "")
	d = laid(d, 0, sealed(31, turned(slotOf(1, 1, "a")[0][6:58], 6, 1)))
	checkOpen(t, "no generation in a slot", d, rest{slot: 1, stamp: 32, at: 8}, "")
}

func TestOpenEndsAtWhatIsNoRecord(t *testing.T) { // P8.1
	saved := laid(blank(16), 0, slotOf(6, 5, "all")...)
	row := rowOf(6, 6, "a", textOf(40), "b")
	for name, s := range map[string]string{
		"torn":             turned(row[1], 2, 1),
		"the number 0":     recordOf(6, 0, 20, "c")[0],
		"the number 2":     recordOf(6, 2, 20, "c")[0],
		"the kind 1":       sheetsOf(sheaf.Head{Kind: 1, Gen: 6, No: 1}, 20, "c")[0],
		"another byte":     turned(row[1], 30, 1),
		"never written":    strings.Repeat("\x00", 64),
		"of another place": row[2],
	} {
		d := laid(laid(saved, 8, row...), 9, s)
		got := opened(t, d)
		want := rest{gen: 6, stamp: got.Stamp, at: 9, no: 1} // the stamp is looked at elsewhere
		checkOpen(t, name, d, want, "all", "a")
	}
	d := laid(laid(saved, 8, row...), 11, recordOf(6, 2, 1<<40-5, "c")...)
	checkOpen(t, "another third one", d, rest{gen: 6, stamp: 1<<40 - 4, at: 12, no: 3}, "all", "a", textOf(40), "c")
}

// The next stamp is above all that stands anywhere, be it whole, torn, or waiting.
func TestOpenTellsTheNextStamp(t *testing.T) { // P8.1
	saved := laid(laid(blank(16), 0, slotOf(6, 20, "all")...), 8, rowOf(6, 21, "a")...)
	plain := rest{gen: 6, stamp: 22, at: 9, no: 1}
	checkOpen(t, "as it is", saved, plain, "all", "a")
	for _, at := range []int{2, 3, 4, 7, 9, 10, 15} {
		for _, stamp := range []int{1, 21, 22, 256, 1 << 32, 1<<40 - 2, 1<<40 - 1} {
			want := plain
			want.stamp = max(22, stamp+1)
			s := sealed(stamp, "no body")
			checkOpen(t, "a whole sheet", laid(saved, at, s), want, "all", "a")
			checkOpen(t, "its first stamp alone", laid(saved, at, s[:58]+strings.Repeat("\x00", 6)), want, "all", "a")
			checkOpen(t, "its last stamp alone", laid(saved, at, strings.Repeat("\x00", 6)+s[6:]), want, "all", "a")
			checkOpen(t, "it waits", waiting(saved, at, s), want, "all", "a")
			over := waiting(laid(saved, at, sealed(1<<40, "")), at, s)
			checkOpen(t, "it waits over a greater one", over, want, "all", "a")
		}
	}
}

func TestOpenOfADiskThatIsSpent(t *testing.T) { // P8.1
	saved := laid(laid(blank(16), 0, slotOf(6, 20, "all")...), 8, rowOf(6, 21, "a")...)
	ones := strings.Repeat("\xff", 6)
	for name, s := range map[string]string{
		"MaxStamp":                   sealed(1<<40, ""),
		"MaxStamp at the beginning":  sealed(1<<40, "")[:58] + "\x00\x00\x00\x00\x00\x07",
		"MaxStamp at the end":        "\x00\x00\x00\x00\x00\x07" + sealed(1<<40, "")[6:],
		"one above MaxStamp":         "\x01\x00\x00\x00\x00\x01" + strings.Repeat("\x00", 52) + "\x01\x00\x00\x00\x00\x01",
		"one above at the beginning": "\x01\x00\x00\x00\x00\x01" + strings.Repeat("\x00", 58),
		"one above at the end":       strings.Repeat("\x00", 58) + "\x01\x00\x00\x00\x00\x01",
		"the greatest":               ones + strings.Repeat("\x00", 52) + ones,
		"bytes 255":                  strings.Repeat("\xff", 64),
	} {
		for _, d := range []disk.State{blank(16), saved, fused(saved, 0), crowded(saved, 1023)} {
			for _, at := range []int{3, 4, 7, 9, 14} {
				checkNotOpened(t, name, laid(d, at, s), api.ErrSpent)
				checkNotOpened(t, name+", waiting", waiting(d, at, s), api.ErrSpent)
			}
		}
	}
	d := laid(blank(512), 511, sealed(1<<40, ""))
	checkNotOpened(t, "in the last sector of 512", d, api.ErrSpent)
	d = laid(blank(16), 0, slotOf(5, 1<<40, "all")...)
	checkNotOpened(t, "in what was saved", d, api.ErrSpent)
	d = laid(laid(blank(16), 0, slotOf(5, 5, "all")...), 8, recordOf(5, 0, 1<<40-1, textOf(30))...)
	checkNotOpened(t, "in a record", d, api.ErrSpent)
	d = laid(laid(blank(16), 0, slotOf(1<<40, 5, "all")...), 8, recordOf(1<<40, 0, 1<<40-1, "a")...)
	checkOpen(t, "a generation alone", d, rest{gen: 1 << 40, stamp: 1 << 40, at: 9, no: 1}, "all", "a")
}
