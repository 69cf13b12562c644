package disk

import (
	"math"
	"math/rand"
	"slices"
	"strings"
	"testing"

	"errand/api"
)

const spare = 5 // entries of spare room behind the lists of a roomy device

// of is a sector that has one byte all over.
func of(b byte) string { return strings.Repeat(string([]byte{b}), 64) }

// numbered are n sectors that all differ.
func numbered(n int) []string {
	l := make([]string, n)
	for i := range l {
		l[i] = strings.Repeat(string([]byte{byte(i >> 8), byte(i)}), 32)
	}
	return l
}

// waiting are n writes, over and over into places sectors, that all differ.
func waiting(n, places int) []Write {
	l := make([]Write, n)
	for i := range l {
		l[i] = Write{At: i % places, Data: strings.Repeat(string([]byte{byte(0x80 | i>>8), byte(i), 'w', '.'}), 16)}
	}
	return l
}

// roomy is a device of lists with spare room behind them, that is marked so that a write into it shows.
func roomy(sectors []string, wait []Write, fuse int) State {
	s := slices.Concat(sectors, slices.Repeat([]string{"spare"}, spare))
	w := slices.Concat(wait, slices.Repeat([]Write{{At: -77, Data: "spare"}}, spare))
	return State{Sectors: s[:len(sectors):len(s)], Wait: w[:len(wait):len(w)], Fuse: fuse}
}

// deep is a device that shares nothing with st, its lists up to their capacity.
func deep(st State) State {
	return State{
		Sectors: slices.Clone(st.Sectors[:cap(st.Sectors)])[:len(st.Sectors)],
		Wait:    slices.Clone(st.Wait[:cap(st.Wait)])[:len(st.Wait)],
		Fuse:    st.Fuse,
	}
}

// checkAsItWas holds a device against what deep told of it, spare room included.
func checkAsItWas(t *testing.T, st, was State) {
	t.Helper()
	if st.Fuse != was.Fuse || len(st.Sectors) != len(was.Sectors) || len(st.Wait) != len(was.Wait) {
		t.Fatalf("another fuse or length: %d, %d, %d", st.Fuse, len(st.Sectors), len(st.Wait))
	}
	if !slices.Equal(st.Sectors[:cap(st.Sectors)], was.Sectors[:cap(st.Sectors)]) {
		t.Fatal("the sectors have changed")
	}
	if !slices.Equal(st.Wait[:cap(st.Wait)], was.Wait[:cap(st.Wait)]) {
		t.Fatal("the writes that wait have changed")
	}
}

// equal holds two devices against each other without Same, which is under test itself.
func equal(a, b State) bool {
	return slices.Equal(a.Sectors, b.Sectors) && slices.Equal(a.Wait, b.Wait) && a.Fuse == b.Fuse
}

func isZero(st State) bool { return len(st.Sectors) == 0 && len(st.Wait) == 0 && st.Fuse == 0 }

// scribble writes over all the memory of a device's lists.
func scribble(st State) {
	for i := range st.Sectors[:cap(st.Sectors)] {
		st.Sectors[:cap(st.Sectors)][i] = "scribbled"
	}
	for i := range st.Wait[:cap(st.Wait)] {
		st.Wait[:cap(st.Wait)][i] = Write{At: -99, Data: "scribbled"}
	}
}

// bad are devices that Check refuses, with the error.
func bad() map[string]struct {
	st State
	e  api.Errno
} {
	type refused = struct {
		st State
		e  api.Errno
	}
	ok, one := numbered(16), waiting(1, 16)
	with := func(at int, s string) []string {
		l := numbered(16)
		l[at] = s
		return l
	}
	behind := func(w Write) []Write { return append(waiting(3, 16), w) }
	ahead := func(w Write) []Write { return append([]Write{w}, waiting(3, 16)...) }
	short, long := of(1)[:63], of(1)+"x"
	return map[string]refused{
		"zero":                        {State{}, api.ErrRange},
		"no sectors":                  {State{Fuse: -1}, api.ErrRange},
		"15 sectors":                  {roomy(numbered(15), one, -1), api.ErrRange},
		"513 sectors":                 {roomy(numbered(513), one, -1), api.ErrRange},
		"5000 sectors":                {roomy(numbered(5000), one, -1), api.ErrRange},
		"fuse -2":                     {roomy(ok, one, -2), api.ErrRange},
		"fuse least":                  {roomy(ok, one, math.MinInt), api.ErrRange},
		"sector of 63, first":         {roomy(with(0, short), one, -1), api.ErrLong},
		"sector of 63, last":          {roomy(with(15, short), one, -1), api.ErrLong},
		"sector of 65":                {roomy(with(7, long), one, -1), api.ErrLong},
		"sector of 0":                 {roomy(with(7, ""), one, -1), api.ErrLong},
		"sector of 128":               {roomy(with(15, of(1)+of(2)), nil, -1), api.ErrLong},
		"1025 writes":                 {roomy(ok, waiting(1025, 16), -1), api.ErrMany},
		"5000 writes":                 {roomy(ok, waiting(5000, 16), 0), api.ErrMany},
		"write at -1":                 {roomy(ok, behind(Write{-1, of(1)}), -1), api.ErrArg},
		"write at 16":                 {roomy(ok, behind(Write{16, of(1)}), -1), api.ErrArg},
		"write at 16, the first":      {roomy(ok, ahead(Write{16, of(1)}), -1), api.ErrArg},
		"write at the least place":    {roomy(ok, ahead(Write{math.MinInt, of(1)}), -1), api.ErrArg},
		"write at the greatest place": {roomy(ok, ahead(Write{math.MaxInt, of(1)}), -1), api.ErrArg},
		"write of 63":                 {roomy(ok, behind(Write{3, short}), -1), api.ErrArg},
		"write of 65":                 {roomy(ok, ahead(Write{3, long}), -1), api.ErrArg},
		"write of 0":                  {roomy(ok, ahead(Write{3, ""}), -1), api.ErrArg},
		"last of 1024 at 16":          {roomy(ok, append(waiting(1023, 16), Write{16, of(1)}), -1), api.ErrArg},
		// Several are due: the first that the promise names is told.
		"15 sectors, a sector of 63": {roomy(with(3, short)[:15], one, -1), api.ErrRange},
		"fuse -2, a sector of 63":    {roomy(with(3, short), one, -2), api.ErrRange},
		"fuse -2, 1025 writes":       {roomy(ok, waiting(1025, 16), -2), api.ErrRange},
		"fuse -2, a write at 16":     {roomy(ok, behind(Write{16, of(1)}), -2), api.ErrRange},
		"sector of 63, 1025 writes":  {roomy(with(15, short), waiting(1025, 16), -1), api.ErrLong},
		"sector of 63, a write of 0": {roomy(with(15, short), ahead(Write{3, ""}), -1), api.ErrLong},
		"1025 writes, one at -1":     {roomy(ok, append([]Write{{-1, of(1)}}, waiting(1024, 16)...), -1), api.ErrMany},
		"1025 writes, one of 65":     {roomy(ok, append(waiting(1024, 16), Write{0, long}), -1), api.ErrMany},
	}
}

func TestNew(t *testing.T) { // P3.1
	for _, n := range []int{16, 17, 100, 511, 512} {
		st, e := New(n)
		if e != api.OK || len(st.Sectors) != n || len(st.Wait) != 0 || st.Fuse != -1 {
			t.Fatalf("New(%d): %d sectors, %d writes, the fuse %d, %v", n, len(st.Sectors), len(st.Wait), st.Fuse, e)
		}
		for i, s := range st.Sectors {
			if s != of(0) {
				t.Errorf("New(%d): sector %d is %q", n, i, s)
			}
		}
		if e := Check(st); e != api.OK {
			t.Errorf("Check of New(%d): %v", n, e)
		}
	}
	for _, n := range []int{15, 513, 0, 1, -1, -16, 514, 1024, math.MinInt, math.MaxInt, math.MaxInt32} {
		if st, e := New(n); e != api.ErrRange || !isZero(st) {
			t.Errorf("New(%d): %d sectors, the fuse %d, %v", n, len(st.Sectors), st.Fuse, e)
		}
	}
}

func TestNewDevicesHaveNothingInCommon(t *testing.T) { // P3.1, rule 4
	a, _ := New(16)
	scribble(a)
	if b, _ := New(16); b.Sectors[0] != of(0) || b.Sectors[15] != of(0) {
		t.Error("a new device has what another one was given")
	}
}

func TestCheckOfWhatMayBe(t *testing.T) { // P3.1
	for _, st := range []State{
		{Sectors: numbered(16), Fuse: -1},
		{Sectors: numbered(512), Fuse: -1},
		{Sectors: numbered(16), Wait: []Write{}, Fuse: 0},
		{Sectors: numbered(16), Fuse: 1},
		{Sectors: numbered(16), Fuse: 1 << 30},
		{Sectors: numbered(16), Fuse: math.MaxInt},
		{Sectors: numbered(16), Wait: waiting(1, 16), Fuse: -1},
		{Sectors: numbered(16), Wait: waiting(1023, 16), Fuse: 0},
		{Sectors: numbered(16), Wait: waiting(1024, 16), Fuse: 0},
		{Sectors: numbered(512), Wait: waiting(1024, 512), Fuse: -1},
		{Sectors: numbered(16), Wait: []Write{{0, of(255)}, {15, of(0)}}, Fuse: -1},
		{Sectors: numbered(512), Wait: []Write{{511, of('\n')}}, Fuse: -1},
	} {
		was := deep(st)
		if e := Check(st); e != api.OK {
			t.Errorf("%d sectors, %d writes, the fuse %d: %v", len(st.Sectors), len(st.Wait), st.Fuse, e)
		}
		checkAsItWas(t, st, was)
	}
}

func TestCheckRefuses(t *testing.T) { // P3.1
	for name, x := range bad() {
		was := deep(x.st)
		if e := Check(x.st); e != x.e {
			t.Errorf("%s: %v, not %v", name, e, x.e)
		}
		checkAsItWas(t, x.st, was)
	}
}

func TestRead(t *testing.T) { // P3.2
	sectors := numbered(20)
	wait := []Write{{3, of('a')}, {5, of('b')}, {3, of('c')}, {19, of('d')}, {3, of('e')}, {0, of('f')}, {5, of('b')}}
	told := map[int]string{0: of('f'), 3: of('e'), 5: of('b'), 19: of('d')}
	for _, fuse := range []int{-1, 0, 7} {
		st := roomy(sectors, wait, fuse)
		was := deep(st)
		for at := range sectors {
			want, there := told[at]
			if !there {
				want = sectors[at]
			}
			if s, e := Read(st, at); s != want || e != api.OK {
				t.Errorf("Read at %d with the fuse %d: %q, %v", at, fuse, s, e)
			}
		}
		for _, at := range []int{-1, 20, 21, 512, math.MinInt, math.MaxInt} {
			if s, e := Read(st, at); s != "" || e != api.ErrRange {
				t.Errorf("Read at %d: %q, %v", at, s, e)
			}
		}
		checkAsItWas(t, st, was)
	}
}

func TestReadOfMuchThatWaits(t *testing.T) { // P3.2
	st := State{Sectors: numbered(512), Wait: waiting(1024, 300)}
	for at := range 512 {
		want := st.Sectors[at]
		if at < 300 {
			last := at + 300*((1023-at)/300)
			want = st.Wait[last].Data
		}
		if s, e := Read(st, at); s != want || e != api.OK {
			t.Errorf("at %d: %q, %v", at, s, e)
		}
	}
}

func TestReadRefuses(t *testing.T) { // P3.2
	for name, x := range bad() {
		was := deep(x.st)
		for _, at := range []int{0, 15, -1, 600} {
			if s, e := Read(x.st, at); s != "" || e != api.ErrArg {
				t.Errorf("%s, at %d: %q, %v", name, at, s, e)
			}
		}
		checkAsItWas(t, x.st, was)
	}
}

func TestPutWaitsBehindTheOthers(t *testing.T) { // P3.3
	for _, x := range []struct{ waits, fuse, left int }{
		{0, -1, -1}, {0, 1, 0}, {0, 2, 1}, {3, -1, -1}, {3, 1, 0}, {3, 1 << 30, 1<<30 - 1},
		{3, math.MaxInt, math.MaxInt - 1}, {1022, -1, -1}, {1023, -1, -1}, {1023, 1, 0},
	} {
		for _, at := range []int{0, 1, 15} {
			st := roomy(numbered(16), waiting(x.waits, 16), x.fuse)
			was := deep(st)
			got, e := Put(st, at, of('p'))
			want := State{numbered(16), append(waiting(x.waits, 16), Write{at, of('p')}), x.left}
			if e != api.OK || !equal(got, want) {
				t.Errorf("%d waiting, the fuse %d, at %d: %d waiting, the fuse %d, %v", x.waits, x.fuse, at, len(got.Wait), got.Fuse, e)
			}
			checkAsItWas(t, st, was)
		}
	}
}

func TestPutRefuses(t *testing.T) { // P3.3
	places := []int{-1, 16, 17, 512, math.MinInt, math.MaxInt}
	datas := []string{"", "x", of(1)[:63], of(1) + "x", of(1) + of(2)}
	try := func(st State, at int, data string, want api.Errno) {
		t.Helper()
		was := deep(st)
		got, e := Put(st, at, data)
		if e != want || !equal(got, was) {
			t.Errorf("at %d, %d bytes, the fuse %d, %d waiting: %v, not %v", at, len(data), st.Fuse, len(st.Wait), e, want)
		}
		checkAsItWas(t, st, was)
	}
	for _, waits := range []int{0, 3, 1024} {
		for _, fuse := range []int{0, 1, -1} {
			st := roomy(numbered(16), waiting(waits, 16), fuse)
			for _, at := range places {
				try(st, at, of(1), api.ErrRange)
				try(st, at, "", api.ErrRange)
			}
			for _, data := range datas {
				try(st, 0, data, api.ErrLong)
				try(st, 15, data, api.ErrLong)
			}
		}
		try(roomy(numbered(16), waiting(waits, 16), 0), 4, of(1), api.ErrDown)
	}
	for _, fuse := range []int{1, 2, -1, math.MaxInt} {
		try(roomy(numbered(16), waiting(1024, 16), fuse), 4, of(1), api.ErrMany)
	}
	for _, x := range bad() {
		try(x.st, 0, of(1), api.ErrArg)
		try(x.st, -1, of(1), api.ErrArg)
		try(x.st, 0, "", api.ErrArg)
	}
}

func TestFlushLetsAllGo(t *testing.T) { // P3.3
	for _, x := range []struct{ waits, fuse, left int }{
		{0, -1, -1}, {0, 1, 0}, {0, 5, 4}, {1, -1, -1}, {5, 1, 0}, {100, 2, 1}, {1023, math.MaxInt, math.MaxInt - 1}, {1024, -1, -1}, {1024, 1, 0},
	} {
		st := roomy(numbered(30), waiting(x.waits, 20), x.fuse)
		was := deep(st)
		want := State{Sectors: numbered(30), Fuse: x.left}
		for _, w := range st.Wait {
			want.Sectors[w.At] = w.Data
		}
		if got, e := Flush(st); e != api.OK || !equal(got, want) {
			t.Errorf("%d waiting, the fuse %d: %d waiting, the fuse %d, %v", x.waits, x.fuse, len(got.Wait), got.Fuse, e)
		}
		checkAsItWas(t, st, was)
	}
}

func TestFlushGoesInOrder(t *testing.T) { // P3.3
	st := State{numbered(16), []Write{{4, of('x')}, {2, of('y')}, {4, of('z')}, {2, of('y')}, {4, of('x')}, {4, of('q')}}, -1}
	got, e := Flush(st)
	if e != api.OK || got.Sectors[4] != of('q') || got.Sectors[2] != of('y') || got.Sectors[3] != numbered(16)[3] || len(got.Wait) != 0 {
		t.Errorf("%q, %v", got.Sectors[2:5], e)
	}
}

func TestFlushRefuses(t *testing.T) { // P3.3
	for _, waits := range []int{0, 1, 1024} {
		st := roomy(numbered(16), waiting(waits, 16), 0)
		was := deep(st)
		if got, e := Flush(st); e != api.ErrDown || !equal(got, was) {
			t.Errorf("%d waiting: %d waiting, the fuse %d, %v", waits, len(got.Wait), got.Fuse, e)
		}
		checkAsItWas(t, st, was)
	}
	for name, x := range bad() {
		was := deep(x.st)
		if got, e := Flush(x.st); e != api.ErrArg || !equal(got, was) {
			t.Errorf("%s: %v", name, e)
		}
		checkAsItWas(t, x.st, was)
	}
}

func TestTheFuseBurns(t *testing.T) { // P3.3, P3.4
	for n := range 6 {
		st, _ := New(16)
		st = Arm(st, n)
		for k := range n {
			var e api.Errno
			if k%2 == 0 {
				st, e = Put(st, k, of(byte(k)))
			} else {
				st, e = Flush(st)
			}
			if e != api.OK || st.Fuse != n-k-1 {
				t.Fatalf("armed with %d, step %d: the fuse %d, %v", n, k, st.Fuse, e)
			}
		}
		for range 3 {
			a, e := Put(st, 0, of(1))
			b, f := Flush(st)
			if e != api.ErrDown || f != api.ErrDown || !equal(a, st) || !equal(b, st) {
				t.Errorf("armed with %d: %v and %v behind it", n, e, f)
			}
		}
		// What fails does not burn: neither a place that is none, nor data that is too short.
		if n > 0 {
			st = Arm(st, n)
			a, e := Put(st, 16, of(1))
			b, f := Put(st, 0, "")
			if e != api.ErrRange || f != api.ErrLong || a.Fuse != n || b.Fuse != n {
				t.Errorf("a put that fails leaves %d and %d of %d", a.Fuse, b.Fuse, n)
			}
		}
	}
}

func TestArm(t *testing.T) { // P3.4
	for _, x := range []struct{ n, fuse int }{
		{-1, -1}, {0, 0}, {1, 1}, {5, 5}, {1<<30 - 1, 1<<30 - 1}, {1 << 30, 1 << 30},
		{-2, -1}, {-1000, -1}, {math.MinInt, -1}, {1<<30 + 1, 1 << 30}, {1 << 31, 1 << 30}, {math.MaxInt, 1 << 30},
	} {
		for _, fuse := range []int{-1, 0, 3, math.MaxInt} {
			st := roomy(numbered(16), waiting(5, 16), fuse)
			was := deep(st)
			if got := Arm(st, x.n); !equal(got, State{numbered(16), waiting(5, 16), x.fuse}) {
				t.Errorf("Arm with %d: the fuse %d, %d sectors, %d waiting", x.n, got.Fuse, len(got.Sectors), len(got.Wait))
			}
			checkAsItWas(t, st, was)
		}
	}
}

func TestArmAndCrashLeaveWhatMayNotBe(t *testing.T) { // P3.4
	for name, x := range bad() {
		was := deep(x.st)
		for _, n := range []int{-1, 0, 5, math.MaxInt} {
			if got := Arm(x.st, n); !equal(got, was) {
				t.Errorf("Arm, %s: the fuse %d", name, got.Fuse)
			}
		}
		for _, cuts := range [][]int{nil, {64}, {64, 64, 64, 64, 64}} {
			if got := Crash(x.st, cuts); !equal(got, was) {
				t.Errorf("Crash, %s: the fuse %d, %d waiting", name, got.Fuse, len(got.Wait))
			}
		}
		checkAsItWas(t, x.st, was)
	}
}

func TestTheChaptersExample(t *testing.T) { // P3.4
	st, _ := New(16)
	st, _ = Put(st, 9, of(1))
	st, _ = Put(st, 9, of(2))
	st = Crash(st, []int{64, 3})
	if want := of(2)[:3] + of(1)[:61]; st.Sectors[9] != want || len(st.Wait) != 0 || st.Fuse != -1 {
		t.Errorf("%q, %d waiting, the fuse %d", st.Sectors[9], len(st.Wait), st.Fuse)
	}
}

func TestCrashWithOneCut(t *testing.T) { // P3.4
	old, data := numbered(16)[6], waiting(8, 16)[7].Data
	for _, x := range []struct{ cut, n int }{
		{-1, 0}, {-64, 0}, {math.MinInt, 0}, {0, 0}, {1, 1}, {2, 2}, {31, 31}, {63, 63}, {64, 64}, {65, 64}, {128, 64}, {math.MaxInt, 64},
	} {
		st := roomy(numbered(16), []Write{{6, data}}, 0)
		was := deep(st)
		want := State{Sectors: numbered(16), Fuse: -1}
		want.Sectors[6] = data[:x.n] + old[x.n:]
		if got := Crash(st, []int{x.cut}); !equal(got, want) {
			t.Errorf("a cut of %d: %q", x.cut, got.Sectors[6])
		}
		checkAsItWas(t, st, was)
	}
}

func TestCrashWithFewerAndMoreCuts(t *testing.T) { // P3.4
	wait := []Write{{0, of('a')}, {1, of('b')}, {0, of('c')}, {15, of('d')}}
	n := numbered(16)
	for _, x := range []struct {
		cuts                []int
		first, second, last string
	}{
		{nil, n[0], n[1], n[15]},
		{[]int{}, n[0], n[1], n[15]},
		{[]int{64}, of('a'), n[1], n[15]},
		{[]int{10, 64}, of('a')[:10] + n[0][10:], of('b'), n[15]},
		{[]int{0, 0, 7}, of('c')[:7] + n[0][7:], n[1], n[15]},
		{[]int{20, 1, 7, 63}, of('c')[:7] + of('a')[:13] + n[0][20:], of('b')[:1] + n[1][1:], of('d')[:63] + n[15][63:]},
		{[]int{20, 1, 30, 64}, of('c')[:30] + n[0][30:], of('b')[:1] + n[1][1:], of('d')},
		{[]int{64, 64, 64, 64, 64, 64, 64}, of('c'), of('b'), of('d')},
		{[]int{99, -1, 0, 64, -5, math.MaxInt}, of('a'), n[1], of('d')},
	} {
		for _, fuse := range []int{-1, 0, 9} {
			st := roomy(n, wait, fuse)
			was := deep(st)
			cuts := slices.Clone(x.cuts)
			want := State{Sectors: numbered(16), Fuse: -1}
			want.Sectors[0], want.Sectors[1], want.Sectors[15] = x.first, x.second, x.last
			if got := Crash(st, x.cuts); !equal(got, want) {
				t.Errorf("cuts %v: %q, %q, %q, the fuse %d", x.cuts, got.Sectors[0], got.Sectors[1], got.Sectors[15], got.Fuse)
			}
			checkAsItWas(t, st, was)
			if !slices.Equal(cuts, x.cuts) {
				t.Errorf("the cuts became %v, they were %v", x.cuts, cuts)
			}
		}
	}
}

func TestCrashWithoutWrites(t *testing.T) { // P3.4
	for _, fuse := range []int{-1, 0, 3} {
		for _, cuts := range [][]int{nil, {64}, {1, 2, 3}} {
			if got := Crash(State{numbered(16), nil, fuse}, cuts); !equal(got, State{numbered(16), nil, -1}) {
				t.Errorf("the fuse %d, cuts %v: the fuse %d", fuse, cuts, got.Fuse)
			}
		}
	}
}

func TestSame(t *testing.T) { // P3.5
	base := func() State { return State{numbered(16), waiting(3, 16), 4} }
	if !Same(base(), base()) {
		t.Error("the same device is another one")
	}
	if a, b := roomy(numbered(16), waiting(3, 16), 4), base(); !Same(a, b) || !Same(b, a) {
		t.Error("spare room makes a difference")
	}
	for name, change := range map[string]func(*State){
		"first sector":        func(st *State) { st.Sectors[0] = of('x') },
		"last sector":         func(st *State) { st.Sectors[15] = of('x') },
		"a byte of a sector":  func(st *State) { st.Sectors[7] = st.Sectors[7][:63] + "x" },
		"a sector too short":  func(st *State) { st.Sectors[7] = st.Sectors[7][:63] },
		"two sectors swapped": func(st *State) { st.Sectors[3], st.Sectors[4] = st.Sectors[4], st.Sectors[3] },
		"a sector less":       func(st *State) { st.Sectors = st.Sectors[:15] },
		"a sector more":       func(st *State) { st.Sectors = append(st.Sectors, of(0)) },
		"no sectors":          func(st *State) { st.Sectors = nil },
		"a write's place":     func(st *State) { st.Wait[1].At = 9 },
		"a write's data":      func(st *State) { st.Wait[2].Data = "x" + st.Wait[2].Data[1:] },
		"two writes swapped":  func(st *State) { st.Wait[0], st.Wait[1] = st.Wait[1], st.Wait[0] },
		"a write less":        func(st *State) { st.Wait = st.Wait[:2] },
		"a write more":        func(st *State) { st.Wait = append(st.Wait, st.Wait[2]) },
		"no writes":           func(st *State) { st.Wait = nil },
		"the fuse":            func(st *State) { st.Fuse = 5 },
		"a fuse that lasts":   func(st *State) { st.Fuse = -1 },
	} {
		a, b := base(), base()
		change(&b)
		was, is := deep(a), deep(b)
		if Same(a, b) || Same(b, a) {
			t.Errorf("%s: the same", name)
		}
		if !Same(b, is) {
			t.Errorf("%s: not the same as itself", name)
		}
		checkAsItWas(t, a, was)
		checkAsItWas(t, b, is)
	}
}

func TestSameOfEmptyListsAndOfWhatMayNotBe(t *testing.T) { // P3.5, rule 3
	if !Same(State{}, State{}) || !Same(State{}, State{Sectors: []string{}, Wait: []Write{}}) {
		t.Error("an empty list and nil are not the same")
	}
	if !Same(State{numbered(16), nil, -1}, State{numbered(16), []Write{}, -1}) {
		t.Error("no writes and no writes are not the same")
	}
	for name, x := range bad() {
		if !Same(x.st, deep(x.st)) {
			t.Errorf("%s: not the same as itself", name)
		}
	}
}

// What is waiting and what has gone read the same, but they are not the same device.
func TestSameTellsWaitingFromGone(t *testing.T) { // P3.5
	st, _ := New(16)
	a, _ := Put(st, 3, of('a'))
	b, _ := Flush(a)
	if Same(a, b) || !Same(b, Crash(a, []int{64})) {
		t.Error("a write that waits is one that has gone")
	}
}

// answers are all devices that calls make of st.
func answers(st State) []State {
	put, _ := Put(st, 2, of('n'))
	flushed, _ := Flush(st)
	return []State{put, flushed, Arm(st, 6), Crash(st, []int{1, 2, 3})}
}

// A device that a call has made shares no memory with the one that it came from, nor with another one.
func TestAnswersAreNewMemory(t *testing.T) { // rule 3
	for _, waits := range []int{0, 4} {
		st := roomy(numbered(16), waiting(waits, 16), 8)
		was := deep(st)
		l := append(answers(st), answers(st)...)
		var kept []State
		for _, a := range l {
			kept = append(kept, deep(a))
		}
		for i, a := range l {
			checkAsItWas(t, a, kept[i])
			scribble(a)
			checkAsItWas(t, st, was)
		}
		for i, a := range answers(st) {
			if !equal(a, kept[i]) {
				t.Errorf("%d waiting: answer %d is another one the next time", waits, i)
			}
		}
	}
}

// plain is a device in the words of the chapter: what is on it, byte by byte, and what waits.
type plain struct {
	sectors [][64]byte
	wait    []Write
}

func (p *plain) crash(cut func(k int) int) {
	for k, w := range p.wait {
		for i := range min(max(cut(k), 0), 64) {
			p.sectors[w.At][i] = w.Data[i]
		}
	}
	p.wait = nil
}

func (p *plain) check(t *testing.T, st State) {
	t.Helper()
	if Check(st) != api.OK || len(st.Sectors) != len(p.sectors) || !slices.Equal(st.Wait, p.wait) {
		t.Fatalf("%v, %d sectors, %d waiting", Check(st), len(st.Sectors), len(st.Wait))
	}
	for at, s := range p.sectors {
		want := string(s[:])
		if st.Sectors[at] != want {
			t.Fatalf("sector %d is %q, not %q", at, st.Sectors[at], want)
		}
		for _, w := range p.wait {
			if w.At == at {
				want = w.Data
			}
		}
		if told, e := Read(st, at); told != want || e != api.OK {
			t.Fatalf("Read at %d: %q, %v, not %q", at, told, e, want)
		}
	}
}

func randomData(r *rand.Rand) string {
	b := make([]byte, 64)
	r.Read(b)
	return string(b)
}

func randomCuts(r *rand.Rand, n int) []int {
	cuts := make([]int, r.Intn(n+3))
	for i := range cuts {
		cuts[i] = r.Intn(90) - 13
	}
	return cuts
}

func TestManySteps(t *testing.T) { // P3.2, P3.3, P3.4
	r := rand.New(rand.NewSource(3))
	for range 40 {
		n := 16 + r.Intn(8)
		st, _ := New(n)
		p := &plain{sectors: make([][64]byte, n)}
		for range 60 {
			switch r.Intn(8) {
			case 0:
				st, _ = Flush(st)
				p.crash(func(int) int { return 64 })
			case 1:
				cuts := randomCuts(r, len(p.wait))
				st = Crash(st, cuts)
				p.crash(func(k int) int {
					if k < len(cuts) {
						return cuts[k]
					}
					return 0
				})
			default:
				w := Write{r.Intn(n), randomData(r)}
				st, _ = Put(st, w.At, w.Data)
				p.wait = append(p.wait, w)
			}
			p.check(t, st)
		}
	}
}

// Where nothing is put behind a flush, each crash leaves what was flushed; where something is put, it is what was
// flushed, with beginnings of what was put over it; other sectors than those stay.
func TestWhatIsFlushedStays(t *testing.T) { // P3.6
	r := rand.New(rand.NewSource(4))
	for range 200 {
		st, _ := New(24)
		for range r.Intn(40) {
			st, _ = Put(st, r.Intn(24), randomData(r))
		}
		st, _ = Flush(st)
		flushed := slices.Clone(st.Sectors)
		anew := map[int]bool{}
		for range 3 {
			for range r.Intn(5) {
				at := 12 + r.Intn(6)
				anew[at] = true
				st, _ = Put(st, at, randomData(r))
			}
			st = Crash(Arm(st, r.Intn(3)), randomCuts(r, len(st.Wait)))
			for at, want := range flushed {
				if s, e := Read(st, at); !anew[at] && (s != want || e != api.OK) {
					t.Fatalf("sector %d was flushed, and is another one: %v", at, e)
				}
			}
		}
	}
}

func TestOnlyBeginningsOfWhatIsPutAnewAreLost(t *testing.T) { // P3.6
	st, _ := New(16)
	st, _ = Put(st, 5, of('o'))
	st, _ = Flush(st)
	put, _ := Put(st, 5, of('n'))
	for cut := range 65 {
		got := Crash(Crash(put, []int{cut}), []int{64})
		if want := of('n')[:cut] + of('o')[cut:]; got.Sectors[5] != want {
			t.Errorf("a cut of %d: %q", cut, got.Sectors[5])
		}
	}
}
