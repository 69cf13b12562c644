package journal_test

import (
	"math/rand"
	"slices"
	"testing"

	"errand/api"
	"errand/disk"
	"errand/journal"
	"errand/sheaf"
	"errand/slots"
)

// plainPut goes by the chapter's words.
func plainPut(c call) (disk.State, int, int, api.Errno) {
	n := len(c.d.Sectors)
	if disk.Check(c.d) != api.OK || c.at < slots.Begin(n) || c.at > n {
		return c.d, c.at, c.stamp, api.ErrArg
	}
	return slots.Pour(c.d, c.at, n, sheaf.Head{Kind: 2, Gen: c.gen, No: c.no}, c.stamp, c.text)
}

// plainScan drains anew for each record.
func plainScan(d disk.State, gen int) (l []string, at int, e api.Errno) {
	if disk.Check(d) != api.OK {
		return nil, 0, api.ErrArg
	}
	for at = slots.Begin(len(d.Sectors)); ; {
		bodies := slots.Drain(d, at, len(d.Sectors))
		text, n, e := sheaf.Join(sheaf.Head{Kind: 2, Gen: gen, No: len(l)}, bodies)
		if e != api.OK {
			return l, at, api.OK
		}
		l, at = append(l, text), at+n
	}
}

func oneOf[T any](r *rand.Rand, l ...T) T { return l[r.Intn(len(l))] }

// someDisk is a disk with records of some generations, spoilt here and there; once in a while it may not be.
func someDisk(r *rand.Rand) disk.State {
	d := blank(16 + r.Intn(9))
	n := len(d.Sectors)
	gen, no := 1+r.Intn(3), 0
	for at := slots.Begin(n); at < n && r.Intn(8) > 0; no++ {
		if r.Intn(20) == 0 {
			gen, no = 1+r.Intn(3), no+oneOf(r, -1, 0, 1)
		}
		l := recordOf(gen, max(no, 0), 1+r.Intn(500), textOf(r.Intn(oneOf(r, 30, 100))))
		d = laid(d, at, l...)
		at += len(l)
	}
	if r.Intn(3) == 0 {
		at := r.Intn(n)
		d = laid(d, at, turned(d.Sectors[at], r.Intn(64), 1<<r.Intn(8)))
	}
	if r.Intn(4) == 0 {
		d = crowded(d, oneOf(r, 1, 5, 1020, 1022, 1023, 1024))
	}
	if r.Intn(4) == 0 && len(d.Wait) < 1024 {
		d = waiting(d, r.Intn(n), d.Sectors[r.Intn(n)])
	}
	d.Fuse = oneOf(r, -1, -1, -1, 0, 1, 2, 3, 4, 9)
	if r.Intn(30) == 0 {
		all := noDisks()
		d = all[oneOf(r, "zero", "15 sectors", "a fuse of -2", "a sector of 63", "a write at 16")]
	}
	return d
}

// someCall is mostly one that may be.
func someCall(r *rand.Rand) call {
	d := someDisk(r)
	n := len(d.Sectors)
	c := call{d: d, at: slots.Begin(n) + r.Intn(n/2+1), gen: 1 + r.Intn(5), no: r.Intn(5), stamp: 1 + r.Intn(1000), text: textOf(r.Intn(120))}
	switch r.Intn(16) {
	case 0:
		c.at = r.Intn(n+5) - 2
	case 1:
		c.gen = oneOf(r, 0, -1, 1<<40, 1<<40+1)
	case 2:
		c.no = oneOf(r, -1, 1<<32-1, 1<<32)
	case 3:
		c.stamp = oneOf(r, 0, -1, 1<<40-1, 1<<40, 1<<40+1)
	case 4:
		c.text = textOf(15999 + r.Intn(3))
	}
	return c
}

func TestPutAtRandom(t *testing.T) { // P7.1
	r := rand.New(rand.NewSource(71))
	found := map[api.Errno]int{}
	for range 10000 {
		c := someCall(r)
		d, place, next, e := plainPut(c)
		checkPut(t, "at random", c, d, place, next, e)
		found[e]++
	}
	for _, e := range []api.Errno{api.OK, api.ErrArg, api.ErrRange, api.ErrLong, api.ErrFull, api.ErrDown, api.ErrMany} {
		if found[e] < 50 {
			t.Errorf("only %d of the calls told %v", found[e], e)
		}
	}
}

func TestScanAtRandom(t *testing.T) { // P7.2
	r := rand.New(rand.NewSource(72))
	found := map[int]int{}
	for range 10000 {
		d, gen := someDisk(r), r.Intn(5)
		want, place, e := plainScan(d, gen)
		got, at, f := journal.Scan(d, gen)
		if !slices.Equal(got, want) || at != place || f != e {
			t.Fatalf("%q, %d, %v, not %q, %d, %v", got, at, f, want, place, e)
		}
		found[len(want)]++
	}
	for n := range 6 {
		if found[n] < 50 {
			t.Errorf("only %d of the disks had %d records", found[n], n)
		}
	}
}

const spare = 4 // entries of spare room behind the lists of a roomy disk

// roomy is a disk like d, with spare room behind its lists that is marked, so that a write into it shows.
func roomy(d disk.State) disk.State {
	sectors := append(slices.Clone(d.Sectors), slices.Repeat([]string{"spare"}, spare)...)
	wait := append(slices.Clone(d.Wait), slices.Repeat([]disk.Write{{At: -7, Data: "spare"}}, spare)...)
	return disk.State{Sectors: sectors[:len(d.Sectors)], Wait: wait[:len(d.Wait)], Fuse: d.Fuse}
}

// withRoom is a disk with its lists up to their capacity.
func withRoom(d disk.State) disk.State {
	return disk.State{Sectors: d.Sectors[:cap(d.Sectors)], Wait: d.Wait[:cap(d.Wait)], Fuse: d.Fuse}
}

// What comes in stays as it was, and its spare room, too; asked again, all is answered again.
func TestWhatComesInStays(t *testing.T) { // P7.1, P7.2, P7.3
	r := rand.New(rand.NewSource(73))
	for range 1000 {
		c := someCall(r)
		c.d = roomy(c.d)
		was := like(withRoom(c.d))
		records := []string{textOf(16001), "a", c.text, "spare"}
		for range 2 {
			d, place, next, e := plainPut(c)
			checkPut(t, "asked again", c, d, place, next, e)
			want, _, _ := plainScan(c.d, c.gen)
			if got, _, _ := journal.Scan(c.d, c.gen); !slices.Equal(got, want) {
				t.Fatalf("asked again: %q, not %q", got, want)
			}
			journal.Need(records[:3])
			if !disk.Same(withRoom(c.d), was) || !slices.Equal(records, []string{textOf(16001), "a", c.text, "spare"}) {
				t.Fatal("what came in is another one")
			}
		}
	}
}

// Whatever is written into an answer, what came in stays, and the next answer is as it should be.
func TestAnswersAreNewMemory(t *testing.T) { // P7.1, P7.2
	r := rand.New(rand.NewSource(74))
	for range 1000 {
		c := someCall(r)
		was := like(c.d)
		if d, _, _, e := journal.Put(c.d, c.at, c.gen, c.no, c.stamp, c.text); e == api.OK {
			for i := range withRoom(d).Sectors {
				withRoom(d).Sectors[i] = "scribbled"
			}
			for i := range withRoom(d).Wait {
				withRoom(d).Wait[i] = disk.Write{At: -9, Data: "scribbled"}
			}
		}
		want, _, _ := plainScan(was, c.gen)
		for range 2 {
			got, _, _ := journal.Scan(c.d, c.gen)
			if !slices.Equal(got, want) || !disk.Same(c.d, was) {
				t.Fatal("an answer shares its memory with another thing")
			}
			for i := range got[:cap(got)] {
				got[:cap(got)][i] = "scribbled"
			}
		}
	}
}
