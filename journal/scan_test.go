package journal_test

import (
	"math"
	"slices"
	"testing"

	"errand/api"
	"errand/disk"
	"errand/journal"
	"errand/sheaf"
)

// checkScan holds all that Scan answers of a disk that may be against what it should.
func checkScan(t *testing.T, what string, d disk.State, gen, place int, want ...string) {
	t.Helper()
	got, at, e := journal.Scan(d, gen)
	if !slices.Equal(got, want) || at != place || e != api.OK {
		t.Errorf("%s: %q, the place %d, %v, not %q, %d", what, got, at, e, want, place)
	}
}

// rowOf are the sheets of records of one generation, numbered from no on, of rising stamps.
func rowOf(gen, no, stamp int, records ...string) []string {
	var row []string
	for i, text := range records {
		row = append(row, recordOf(gen, no+i, stamp+len(row), text)...)
	}
	return row
}

// turned is a text with some bits of one of its bytes turned.
func turned(s string, at int, bits byte) string {
	b := []byte(s)
	b[at] ^= bits
	return string(b)
}

// torn is a sheet that a crash broke off: its second stamp is another one.
func torn(s string) string { return turned(s, 63, 1) }

// bodyTurned is a sheet that is as whole as it was, with some bits of its body turned.
func bodyTurned(s string, at int, bits byte) string { return turned(s, 6+at, bits) }

func TestScanOfDisksThatMayNotBe(t *testing.T) { // P7.2
	for name, d := range noDisks() {
		for _, gen := range []int{math.MinInt, 0, 5, 6, math.MaxInt} {
			if got, at, e := journal.Scan(d, gen); len(got) != 0 || at != 0 || e != api.ErrArg {
				t.Errorf("%s: %q, %d, %v", name, got, at, e)
			}
		}
	}
}

func TestScanOfNoRecord(t *testing.T) { // P7.2
	for _, x := range [][2]int{{16, 8}, {17, 8}, {19, 8}, {20, 10}, {511, 254}, {512, 256}} {
		for _, gen := range []int{math.MinInt, -1, 0, 1, 5, 1 << 40, 1<<40 + 1, math.MaxInt} {
			checkScan(t, "a blank", blank(x[0]), gen, x[1])
			checkScan(t, "a blank without power", fused(blank(x[0]), 0), gen, x[1])
		}
	}
}

func TestScanOfRecords(t *testing.T) { // P7.2
	for _, n := range []int{16, 19, 20, 512} {
		begin := n / 4 * 2
		for _, records := range [][]string{
			{""}, {"a"}, {textOf(29)}, {textOf(30)}, {"\x00\x00"}, {"", ""}, {"a", "a", "a"}, {textOf(60), "b"}, {"b", textOf(60)},
			{textOf(67), "", textOf(66), "\x00"}, {textOf(288)}, {textOf(100), textOf(100), textOf(30)},
		} {
			for _, gen := range []int{1, 255, 256, 1 << 32, 1 << 40} {
				row := rowOf(gen, 0, 20, records...)
				d := laid(blank(n), begin, row...)
				checkScan(t, "records", d, gen, begin+len(row), records...)
				checkScan(t, "records without power", fused(d, 0), gen, begin+len(row), records...)
				for _, other := range []int{gen - 1, gen + 1, 0, -gen, gen + 1<<32, gen + 1<<48, 7} {
					checkScan(t, "another generation", d, other, begin)
				}
			}
		}
	}
}

// Whatever stands in the slots, the journal begins behind both of them.
func TestScanBeginsBehindTheSlots(t *testing.T) { // P7.2
	for _, n := range []int{16, 19, 20, 24} {
		begin := n / 4 * 2
		row := rowOf(5, 0, 20, "a", "b")
		ahead := laid(blank(n), begin-1, row...)
		checkScan(t, "a sector ahead", ahead, 5, begin)
		behind := laid(blank(n), begin+1, row...)
		checkScan(t, "a sector behind", behind, 5, begin)
		checkScan(t, "in both slots, too", laid(laid(blank(n), 0, row...), begin, row...), 5, begin+2, "a", "b")
	}
}

func TestScanUpToTheLastSector(t *testing.T) { // P7.2
	for _, records := range [][]string{
		{textOf(288)}, slices.Repeat([]string{"x"}, 8), {"a", textOf(251)}, {textOf(251), "a"}, {textOf(140), textOf(100), "c"},
	} {
		row := rowOf(5, 0, 20, records...)
		checkScan(t, "all of the journal", laid(blank(16), 8, row...), 5, 16, records...)
		for n := range row {
			told := 0
			for journal.Need(records[:told+1]) <= n {
				told++
			}
			place := 8 + journal.Need(records[:told])
			checkScan(t, "sheets missing", laid(blank(16), 8, row[:n]...), 5, place, records[:told]...)
		}
	}
	for left := 1; left < 8; left++ {
		first, last := textOf(37*(8-left)-8), textOf(37*left)
		d := laid(blank(16), 8, rowOf(5, 0, 20, first, last)...) // laid leaves out what the disk has no room for
		checkScan(t, "broken off by the end of the disk", d, 5, 16-left, first)
	}
}

func TestScanOf256Records(t *testing.T) { // P7.2
	var records []string
	for i := range 256 {
		records = append(records, textOf(i%30))
	}
	row := rowOf(1<<40, 0, 1, records...)
	checkScan(t, "one a sector", laid(blank(512), 256, row...), 1<<40, 512, records...)
	longest := []string{textOf(9464)}
	checkScan(t, "one of all sectors", laid(blank(512), 256, rowOf(3, 0, 1, longest...)...), 3, 512, longest...)
}

func TestScanOfTwoGenerations(t *testing.T) { // P7.2, P7.4
	first := rowOf(5, 0, 20, "a", textOf(40))
	for name, second := range map[string][]string{
		"numbers that go on": rowOf(6, 2, 30, "c", "d"),
		"numbers of its own": rowOf(6, 0, 30, "c", "d"),
		"an older one":       rowOf(4, 2, 30, "c", "d"),
		"a far one":          rowOf(5+1<<32, 2, 30, "c", "d"),
	} {
		d := laid(blank(16), 8, slices.Concat(first, second)...)
		checkScan(t, name, d, 5, 11, "a", textOf(40))
		for _, gen := range []int{4, 6, 5 + 1<<32} {
			checkScan(t, name+", the second one", d, gen, 8)
		}
		third := laid(d, 8+len(first)+len(second), rowOf(5, 2, 40, "e")...)
		checkScan(t, name+", and the first one again", third, 5, 11, "a", textOf(40))
	}
	over := laid(laid(blank(16), 8, rowOf(5, 0, 20, "a", "b", "c")...), 8, rowOf(6, 0, 30, "x")...)
	checkScan(t, "a new one over the first", over, 6, 9, "x")
	checkScan(t, "the first, of which one is gone", over, 5, 8)
}

func TestScanOfNumbersOutOfTheRow(t *testing.T) { // P7.2
	for _, x := range []struct {
		numbers []int
		told    int
	}{
		{[]int{0, 1, 2, 3}, 4}, {[]int{1, 2, 3, 4}, 0}, {[]int{0, 2, 3}, 1}, {[]int{0, 0, 1}, 1}, {[]int{0, 1, 1, 2}, 2},
		{[]int{0, 1, 3, 2}, 2}, {[]int{1, 0, 1, 2}, 0}, {[]int{0, 1, 0}, 2}, {[]int{0, 257, 1}, 1}, {[]int{1<<32 - 1, 0}, 0},
		{[]int{0, 1 << 31}, 1}, {[]int{256, 1}, 0}, {[]int{1 << 16}, 0}, {[]int{0, 1, 2 + 1<<24}, 2},
	} {
		for _, size := range []int{3, 40} {
			var row, want []string
			for i, no := range x.numbers {
				row = append(row, recordOf(5, no, 20+len(row), textOf(size+i))...)
				if i < x.told {
					want = append(want, textOf(size+i))
				}
			}
			d := laid(blank(16), 8, row...)
			checkScan(t, "numbers", d, 5, 8+journal.Need(want), want...)
		}
	}
}

// Each of the sheets of one of three records is spoilt: those ahead are told, and none behind.
func TestScanOfRecordsThatAreNotWhole(t *testing.T) { // P7.2
	records := []string{textOf(60), textOf(70), textOf(20)}
	row := rowOf(5, 0, 20, records...)
	bad := map[string]func(s string) string{
		"a sector of bytes 0":     func(string) string { return blank(16).Sectors[0] },
		"a body of bytes 0":       func(s string) string { return s[:6] + string(make([]byte, 52)) + s[58:] },
		"not whole":               torn,
		"the kind 0":              func(s string) string { return bodyTurned(s, 0, 2) },
		"the kind 1":              func(s string) string { return bodyTurned(s, 0, 3) },
		"the kind 3":              func(s string) string { return bodyTurned(s, 0, 1) },
		"the generation 6":        func(s string) string { return bodyTurned(s, 6, 3) },
		"no generation":           func(s string) string { return bodyTurned(s, 6, 5) },
		"another number":          func(s string) string { return bodyTurned(s, 10, 8) },
		"a far number":            func(s string) string { return bodyTurned(s, 7, 128) },
		"another place":           func(s string) string { return bodyTurned(s, 12, 1) },
		"another number of parts": func(s string) string { return bodyTurned(s, 14, 4) },
		"no parts":                func(s string) string { return bodyTurned(s, 14, s[20]) },
		"the first byte of data":  func(s string) string { return bodyTurned(s, 15, 1) },
		"a byte of data":          func(s string) string { return bodyTurned(s, 30, 64) },
		"the last byte of data":   func(s string) string { return bodyTurned(s, 51, 128) },
	}
	for i := range row {
		told := 0
		for journal.Need(records[:told+1]) <= i {
			told++
		}
		place := 8 + journal.Need(records[:told])
		missing := laid(blank(16), 8, slices.Concat(row[:i], row[i+1:])...)
		checkScan(t, "one is missing", missing, 5, place, records[:told]...)
		for name, spoil := range bad {
			d := laid(blank(16), 8, row...)
			d.Sectors[8+i] = spoil(row[i])
			checkScan(t, name, d, 5, place, records[:told]...)
		}
	}
}

// What the slots have is no record, though it stands where one should.
func TestScanOfTheOtherKinds(t *testing.T) { // P7.2
	for _, kind := range []uint8{0, 1, 3, 128, 255} {
		d := laid(blank(16), 8, sheetsOf(sheaf.Head{Kind: kind, Gen: 5}, 20, "a")...)
		checkScan(t, "another kind", d, 5, 8)
		d = laid(d, 8, rowOf(5, 0, 30, "a")...)
		d = laid(d, 9, sheetsOf(sheaf.Head{Kind: kind, Gen: 5, No: 1}, 40, "b")...)
		checkScan(t, "another kind behind a record", d, 5, 9, "a")
	}
}

func TestScanOfWhatWaits(t *testing.T) { // P7.2
	row := rowOf(5, 0, 20, "a", textOf(40))
	checkScan(t, "all wait", waiting(blank(16), 8, row...), 5, 11, "a", textOf(40))
	d := laid(blank(16), 8, row...)
	checkScan(t, "one more waits", waiting(d, 11, rowOf(5, 2, 30, "c")...), 5, 12, "a", textOf(40), "c")
	checkScan(t, "another one waits over the first", waiting(d, 8, rowOf(5, 0, 30, "x")...), 5, 11, "x", textOf(40))
	checkScan(t, "one not whole waits over the last", waiting(d, 10, torn(row[2])), 5, 9, "a")
	checkScan(t, "two wait over one another", waiting(waiting(d, 9, torn(row[1])), 9, row[1]), 5, 11, "a", textOf(40))
}

// Stamps tell nothing of a record, so long as its sheets are whole.
func TestScanOfAnyStamps(t *testing.T) { // P7.2
	two := recordOf(5, 1, 700, textOf(40))
	d := laid(blank(16), 8, recordOf(5, 0, 1<<40, "a")[0], two[0], recordOf(5, 1, 1, textOf(40))[1], recordOf(5, 2, 3, "c")[0])
	checkScan(t, "stamps that fall", d, 5, 12, "a", textOf(40), "c")
}
