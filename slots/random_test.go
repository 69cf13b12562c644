package slots

import (
	"math/rand"
	"slices"
	"testing"

	"errand/api"
	"errand/disk"
	"errand/sheaf"
)

// plainFine tells whether a disk may be, apart from disk.Check.
func plainFine(d disk.State) bool {
	fine := len(d.Sectors) >= 16 && len(d.Sectors) <= 512 && len(d.Wait) <= 1024 && d.Fuse >= -1
	for _, s := range d.Sectors {
		fine = fine && len(s) == 64
	}
	for _, w := range d.Wait {
		fine = fine && w.At >= 0 && w.At < len(d.Sectors) && len(w.Data) == 64
	}
	return fine
}

// plainSectors are the sectors with what waits laid over them.
func plainSectors(d disk.State) []string {
	l := slices.Clone(d.Sectors)
	for _, w := range d.Wait {
		l[w.At] = w.Data
	}
	return l
}

func plainNumber(s string) (n int) {
	for i := range len(s) {
		n = n*256 + int(s[i])
	}
	return n
}

func plainTop(d disk.State) (top int) {
	if !plainFine(d) {
		return 0
	}
	for _, s := range plainSectors(d) {
		top = max(top, plainNumber(s[:6]), plainNumber(s[58:]))
	}
	return top
}

func plainStretch(d disk.State, from, to int) bool {
	return plainFine(d) && 0 <= from && from <= to && to <= len(d.Sectors)
}

// plainPour goes by the chapter's words, without sheet, and with steps of its own for the disk.
func plainPour(c call) (disk.State, int, int, api.Errno) {
	if !plainStretch(c.d, c.from, c.to) {
		return c.d, c.from, c.stamp, api.ErrArg
	}
	bodies, e := sheaf.Lay(c.h, c.text)
	switch {
	case e != api.OK:
		return c.d, c.from, c.stamp, e
	case len(bodies) > c.to-c.from:
		return c.d, c.from, c.stamp, api.ErrFull
	case c.stamp < 1 || c.stamp > 1<<40 || c.stamp+len(bodies)-1 > 1<<40:
		return c.d, c.from, c.stamp, api.ErrRange
	}
	d := c.d
	for i, b := range bodies {
		if d.Fuse == 0 {
			return d, c.from, c.stamp, api.ErrDown
		}
		if len(d.Wait) == 1024 {
			return d, c.from, c.stamp, api.ErrMany
		}
		d = asPut(d, c.from+i, []string{whole(c.stamp+i, b)}, 1)
	}
	if d.Fuse == 0 {
		return d, c.from, c.stamp, api.ErrDown
	}
	return disk.State{Sectors: plainSectors(d), Fuse: max(d.Fuse-1, -1)}, c.from + len(bodies), c.stamp + len(bodies), api.OK
}

func plainDrain(d disk.State, from, to int) (bodies []string) {
	if !plainStretch(d, from, to) {
		return nil
	}
	for _, s := range plainSectors(d)[from:to] {
		if n := plainNumber(s[:6]); s[:6] != s[58:] || n == 0 || n > 1<<40 {
			return bodies
		}
		bodies = append(bodies, s[6:58])
	}
	return bodies
}

func plainLoad(d disk.State, slot int) (Snap, api.Errno) {
	if !plainFine(d) || slot != 0 && slot != 1 {
		return Snap{}, api.ErrArg
	}
	n := len(d.Sectors) / 4
	l := plainDrain(d, slot*n, slot*n+n)
	if len(l) == 0 {
		return Snap{}, api.ErrNone
	}
	p, e := sheaf.Read(l[0])
	if e != api.OK {
		return Snap{}, e
	}
	if p.Head.Kind != 1 || p.Head.No != 0 {
		return Snap{}, api.ErrKind
	}
	text, _, e := sheaf.Join(p.Head, l)
	if e != api.OK {
		return Snap{}, e
	}
	return Snap{Gen: p.Head.Gen, Text: text}, api.OK
}

func plainBest(d disk.State) (int, Snap, api.Errno) {
	a, e := plainLoad(d, 0)
	b, f := plainLoad(d, 1)
	switch {
	case e == api.ErrArg:
		return 0, Snap{}, api.ErrArg
	case e != api.OK && f != api.OK:
		return 0, Snap{}, api.ErrNone
	case f != api.OK || e == api.OK && a.Gen >= b.Gen:
		return 0, a, api.OK
	}
	return 1, b, api.OK
}

func oneOf[T any](r *rand.Rand, l ...T) T { return l[r.Intn(len(l))] }

// someSector is a sheet that is whole, or nearly so, or any bytes.
func someSector(r *rand.Rand, sheets []string) string {
	s := []byte(oneOf(r, sheets...))
	switch r.Intn(4) {
	case 0:
		s[r.Intn(64)] ^= 1 << r.Intn(8)
	case 1:
		s[r.Intn(22)], s[5], s[63] = byte(r.Intn(3)), byte(r.Intn(3)), byte(r.Intn(3))
	}
	return string(s)
}

// someDisk is a disk with texts of slots, spoilt here and there; once in a while it may not be.
func someDisk(t *testing.T, r *rand.Rand) disk.State {
	d := blank(16 + r.Intn(9))
	sheets := []string{noughts(64), whole(1<<40, textOf(52))}
	for slot := range 2 {
		h := sheaf.Head{Kind: uint8(oneOf(r, 1, 1, 1, 2)), Gen: 1 + r.Intn(3), No: oneOf(r, 0, 0, 0, 1)}
		l := sheetsOf(t, h, 1+r.Intn(500), textOf(r.Intn(141)))
		d = with(d, slot*Size(len(d.Sectors)), l...)
		sheets = append(sheets, l...)
	}
	for range oneOf(r, 0, 0, 1, 2, 6) {
		d = with(d, r.Intn(len(d.Sectors)), someSector(r, sheets))
	}
	if r.Intn(4) == 0 {
		d = crowded(d, oneOf(r, 1, 5, 1020, 1022, 1023, 1024))
	}
	for range oneOf(r, 0, 0, 1, 3) {
		if len(d.Wait) < 1024 || r.Intn(8) == 0 {
			d = waits(d, r.Intn(len(d.Sectors)), someSector(r, sheets))
		}
	}
	d.Fuse = oneOf(r, -1, -1, -1, 0, 1, 2, 3, 4, 5, 9)
	switch r.Intn(40) {
	case 0:
		d.Fuse = -2
	case 1:
		d.Sectors[r.Intn(len(d.Sectors))] += "x"
	case 2:
		d.Sectors = d.Sectors[:r.Intn(17)]
	}
	return d
}

// someCall is mostly one that may be.
func someCall(t *testing.T, r *rand.Rand) call {
	d := someDisk(t, r)
	n := len(d.Sectors)
	c := call{d: d, from: r.Intn(n + 1), h: sheaf.Head{Kind: uint8(r.Intn(256)), Gen: 1 + r.Intn(300), No: r.Intn(3)}}
	c.to = min(n, c.from+r.Intn(9))
	c.stamp = oneOf(r, 1, 2, 300, 1<<40-4, 1<<40-2, 1<<40)
	c.text = textOf(r.Intn(200))
	switch r.Intn(20) {
	case 0:
		c.from = oneOf(r, -1, c.to+1, -1<<63)
	case 1:
		c.to = oneOf(r, n+1, 1<<62, -1)
	case 2:
		c.h = oneOf(r, sheaf.Head{}, sheaf.Head{Gen: 1<<40 + 1}, sheaf.Head{Gen: 1, No: -1})
	case 3:
		c.stamp = oneOf(r, 0, -1, 1<<40+1, 1<<63-1, -1<<63)
	case 4:
		c.text = textOf(16000 + r.Intn(3))
	}
	return c
}

func TestPourAtRandom(t *testing.T) { // P6.3
	r := rand.New(rand.NewSource(61))
	found := map[api.Errno]int{}
	for range 20000 {
		c := someCall(t, r)
		d, place, next, e := plainPour(c)
		checkPour(t, "at random", c, d, place, next, e)
		found[e]++
	}
	for _, e := range []api.Errno{api.OK, api.ErrArg, api.ErrRange, api.ErrLong, api.ErrFull, api.ErrDown, api.ErrMany} {
		if found[e] < 50 {
			t.Errorf("only %d of the calls told %v", found[e], e)
		}
	}
}

func TestReadingAtRandom(t *testing.T) { // P6.2, P6.4, P6.5, P6.6
	r := rand.New(rand.NewSource(62))
	found := map[api.Errno]int{}
	for range 20000 {
		d := someDisk(t, r)
		if got, want := Top(d), plainTop(d); got != want {
			t.Fatalf("Top: %d, not %d", got, want)
		}
		from, to := r.Intn(20)-1, r.Intn(30)-1
		checkDrain(t, "at random", d, from, to, plainDrain(d, from, to)...)
		for slot := range 2 {
			snap, e := plainLoad(d, slot)
			checkLoad(t, "at random", d, slot, snap, e)
			found[e]++
		}
		slot, snap, e := plainBest(d)
		checkBest(t, "at random", d, slot, snap, e)
	}
	for _, e := range []api.Errno{api.OK, api.ErrArg, api.ErrNone, api.ErrRange, api.ErrKind, api.ErrState, api.ErrCut, api.ErrForm, api.ErrSum} {
		if found[e] < 50 {
			t.Errorf("only %d of the slots told %v", found[e], e)
		}
	}
}

func TestSaveAtRandom(t *testing.T) { // P6.5
	r := rand.New(rand.NewSource(63))
	for range 5000 {
		c, slot := someCall(t, r), oneOf(r, 0, 1, 0, 1, 0, 1, -1, 2)
		size := Size(len(c.d.Sectors))
		want, _, next, e := plainPour(call{c.d, slot * size, (slot + 1) * size, inSlot(c.h.Gen), c.stamp, c.text})
		if slot != 0 && slot != 1 {
			want, next, e = c.d, c.stamp, api.ErrArg
		}
		checkSave(t, "at random", c.d, slot, c.h.Gen, c.stamp, c.text, want, next, e)
	}
}

// roomy is a disk like d, with spare room behind its lists that is marked so that a write into it shows.
func roomy(d disk.State) disk.State {
	s := slices.Concat(d.Sectors, slices.Repeat([]string{"spare"}, spare))
	w := slices.Concat(d.Wait, slices.Repeat([]disk.Write{{At: -77, Data: "spare"}}, spare))
	return disk.State{Sectors: s[:len(d.Sectors):len(s)], Wait: w[:len(d.Wait):len(w)], Fuse: d.Fuse}
}

// all are a disk's lists up to their capacity.
func all(d disk.State) disk.State {
	return disk.State{Sectors: d.Sectors[:cap(d.Sectors)], Wait: d.Wait[:cap(d.Wait)], Fuse: d.Fuse}
}

// What comes in stays as it was, and its spare room, too; asked again, all is answered again.
func TestWhatComesInStays(t *testing.T) { // P6.2, P6.3, P6.4, P6.5, P6.6
	r := rand.New(rand.NewSource(64))
	for range 2000 {
		c := someCall(t, r)
		c.d = roomy(c.d)
		was := fused(all(c.d), c.d.Fuse)
		for range 2 {
			d, place, next, e := plainPour(c)
			checkPour(t, "asked again", c, d, place, next, e)
			Save(c.d, r.Intn(2), 5, 10, c.text)
			Top(c.d)
			Load(c.d, r.Intn(2))
			Best(c.d)
			Drain(c.d, 0, len(c.d.Sectors))
			if !disk.Same(all(c.d), was) {
				t.Fatal("the disk that came in is another one")
			}
		}
	}
}

// scribble writes over all the memory of a disk's lists.
func scribble(d disk.State) {
	for i := range all(d).Sectors {
		all(d).Sectors[i] = "scribbled"
	}
	for i := range all(d).Wait {
		all(d).Wait[i] = disk.Write{At: -99, Data: "scribbled"}
	}
}

func TestAnswersAreNewMemory(t *testing.T) { // P6.3, P6.4, P6.5
	r := rand.New(rand.NewSource(65))
	for range 500 {
		c := someCall(t, r)
		was := fused(c.d, c.d.Fuse)
		if d, _, _, e := Pour(c.d, c.from, c.to, c.h, c.stamp, c.text); e == api.OK {
			scribble(d)
		}
		if d, _, e := Save(c.d, 1, 5, 10, c.text); e == api.OK {
			scribble(d)
		}
		bodies := Drain(c.d, 0, 4)
		for i := range bodies[:cap(bodies)] {
			bodies[:cap(bodies)][i] = "scribbled"
		}
		if !disk.Same(c.d, was) {
			t.Fatal("an answer shares its memory with the disk that came in")
		}
	}
}
