package sheaf

import (
	"math"
	"math/rand"
	"slices"
	"strings"
	"testing"

	"errand/api"
)

var someHead = Head{Kind: 2, Gen: 258, No: 7}

func noughts(n int) string { return strings.Repeat("\x00", n) }

// textOf is a text of n bytes, of which none is 0 and neighbours differ.
func textOf(n int) string {
	b := make([]byte, n)
	for i := range b {
		b[i] = byte(i%251 + 1)
	}
	return string(b)
}

// number is n in width bytes, the highest first, worked out apart from octet.
func number(width, n int) string {
	b := make([]byte, width)
	for i := range b {
		b[i] = byte(n >> (8 * (width - 1 - i)))
	}
	return string(b)
}

// plainSum goes bit by bit, apart from crc.
func plainSum(s string) int {
	c := uint32(0xFFFFFFFF)
	for i := range len(s) {
		c ^= uint32(s[i])
		for range 8 {
			low := c & 1
			c >>= 1
			if low == 1 {
				c ^= 0xEDB88320
			}
		}
	}
	return int(^c)
}

// plainBody is any body, whether or not it may be.
func plainBody(h Head, at, of int, data string) string {
	return string([]byte{h.Kind}) + number(6, h.Gen) + number(4, h.No) + number(2, at) + number(2, of) + data
}

// summed is a load with a sum that is right, whatever stands behind it.
func summed(behind string) string { return number(4, plainSum(behind)) + behind }

// loadOf is the load that tells that length, fills so many parts, and has a sum that is right.
func loadOf(length int, text string, parts int) string {
	behind := number(4, length) + text
	return summed(behind + noughts(parts*37-4-len(behind)))
}

// cutUp are the bodies of a load, be it one of a text or not.
func cutUp(h Head, load string) []string {
	bodies := make([]string, len(load)/37)
	for i := range bodies {
		bodies[i] = plainBody(h, i, len(bodies), load[i*37:(i+1)*37])
	}
	return bodies
}

// plainParts tries numbers of parts, one after the other, for one that has room.
func plainParts(n int) int {
	parts := 1
	for parts*37 < n+8 {
		parts++
	}
	return parts
}

func plainLay(h Head, text string) []string {
	return cutUp(h, loadOf(len(text), text, plainParts(len(text))))
}

func mustLay(t *testing.T, h Head, text string) []string {
	t.Helper()
	bodies, e := Lay(h, text)
	if e != api.OK {
		t.Fatalf("Lay(%v, a text of %d): %v", h, len(text), e)
	}
	return bodies
}

func TestCountAtItsEdges(t *testing.T) { // P5.1
	for _, x := range []struct{ n, want int }{
		{math.MinInt, 0}, {-16000, 0}, {-9, 0}, {-8, 0}, {-1, 0},
		{0, 1}, {1, 1}, {28, 1}, {29, 1},
		{30, 2}, {37, 2}, {65, 2}, {66, 2},
		{67, 3}, {103, 3}, {104, 4},
		{15975, 432}, {15976, 432}, {15977, 433}, {15999, 433}, {16000, 433},
		{16001, 0}, {16013, 0}, {1 << 32, 0}, {math.MaxInt - 44, 0}, {math.MaxInt, 0},
	} {
		if got := Count(x.n); got != x.want {
			t.Errorf("Count(%d): %d, not %d", x.n, got, x.want)
		}
	}
}

func TestLongestAtItsEdges(t *testing.T) { // P5.1
	for _, x := range []struct{ sheets, want int }{
		{math.MinInt, 0}, {math.MinInt + 1, 0}, {-433, 0}, {-1, 0}, {0, 0},
		{1, 29}, {2, 66}, {3, 103}, {4, 140},
		{431, 15939}, {432, 15976}, {433, 16000}, {434, 16000}, {435, 16000},
		{1 << 32, 16000}, {math.MaxInt/37 + 1, 16000}, {math.MaxInt - 1, 16000}, {math.MaxInt, 16000},
	} {
		if got := Longest(x.sheets); got != x.want {
			t.Errorf("Longest(%d): %d, not %d", x.sheets, got, x.want)
		}
	}
}

func TestCountIsTheLeastNumberWithRoom(t *testing.T) { // P5.1
	for n := range 16001 {
		if got, want := Count(n), plainParts(n); got != want {
			t.Fatalf("Count(%d): %d, not %d", n, got, want)
		}
	}
}

func TestLongestGoesWithCount(t *testing.T) { // P5.1
	for sheets := 1; sheets <= 433; sheets++ {
		n := Longest(sheets)
		if Count(n) != sheets {
			t.Errorf("the longest text of %d, of %d bytes, takes %d", sheets, n, Count(n))
		}
		if sheets < 433 && Count(n+1) != sheets+1 {
			t.Errorf("a byte more than the %d of %d sheets takes %d", n, sheets, Count(n+1))
		}
	}
}

func TestLayWrittenOut(t *testing.T) { // P5.2
	head := Head{Kind: 1, Gen: 0x0102030405, No: 0x06070809}
	ahead := "\x01" + "\x00\x01\x02\x03\x04\x05" + "\x06\x07\x08\x09"
	for _, x := range []struct {
		text string
		want []string
	}{
		{"", []string{ahead + "\x00\x00\x00\x01" + "\x7a\x7c\x3a\x8d" + "\x00\x00\x00\x00" + noughts(29)}},
		{"ab", []string{ahead + "\x00\x00\x00\x01" + "\x99\x40\x19\xff" + "\x00\x00\x00\x02" + "ab" + noughts(27)}},
		{"ABCDEFGHIJKLMNOPQRSTUVWXYZ[\\]^", []string{
			ahead + "\x00\x00\x00\x02" + "\xb2\x1f\x4f\x89" + "\x00\x00\x00\x1e" + "ABCDEFGHIJKLMNOPQRSTUVWXYZ[\\]",
			ahead + "\x00\x01\x00\x02" + "^" + noughts(36),
		}},
	} {
		if got := mustLay(t, head, x.text); !slices.Equal(got, x.want) {
			t.Errorf("%q:\n%q, not\n%q", x.text, got, x.want)
		}
	}
}

// edgeHeads are heads that may be.
func edgeHeads() []Head {
	var heads []Head
	for _, kind := range []uint8{0, 1, 2, 255} {
		for _, gen := range []int{1, 2, 255, 256, 1<<40 - 1, 1 << 40} {
			for _, no := range []int{0, 1, 255, 256, 1<<32 - 2, 1<<32 - 1} {
				heads = append(heads, Head{Kind: kind, Gen: gen, No: no})
			}
		}
	}
	return heads
}

// noHeads are heads that may not be; one that is wrong in one of both, and ones that are in both.
func noHeads() []Head {
	wrongGens := []int{math.MinInt, -1, 0, 1<<40 + 1, 1 << 41, 1 << 48, 1<<48 + 1, 1<<56 + 1, math.MaxInt}
	wrongNos := []int{math.MinInt, -1, 1 << 32, 1<<32 + 1, 1 << 40, math.MaxInt}
	var heads []Head
	for _, gen := range wrongGens {
		for _, no := range append([]int{0, 1, 1<<32 - 1}, wrongNos...) {
			heads = append(heads, Head{Kind: 1, Gen: gen, No: no})
		}
	}
	for _, no := range wrongNos {
		heads = append(heads, Head{Kind: 1, Gen: 1, No: no}, Head{Kind: 0, Gen: 1 << 40, No: no})
	}
	return heads
}

func TestLayOfEachHead(t *testing.T) { // P5.2
	for _, h := range edgeHeads() {
		for _, n := range []int{0, 29, 30, 66, 67} {
			if got, want := mustLay(t, h, textOf(n)), plainLay(h, textOf(n)); !slices.Equal(got, want) {
				t.Errorf("%v, a text of %d:\n%q, not\n%q", h, n, got, want)
			}
		}
	}
}

func TestLayOfEachLength(t *testing.T) { // P5.2
	lengths := []int{28, 29, 30, 65, 66, 67, 103, 104, 255, 256, 4095, 15975, 15976, 15977, 15999, 16000}
	for n := range 250 {
		lengths = append(lengths, n)
	}
	for _, n := range lengths {
		for _, text := range []string{textOf(n), noughts(n), strings.Repeat("\xff", n)} {
			got := mustLay(t, someHead, text)
			if !slices.Equal(got, plainLay(someHead, text)) || len(got) != Count(n) {
				t.Errorf("a text of %d, %d bodies: %q", n, len(got), got)
			}
		}
	}
}

func TestLayRefuses(t *testing.T) { // P5.2
	for _, h := range noHeads() {
		for _, n := range []int{0, 29, 16000, 16001, 70000} { // the head's error comes ahead of the text's
			if l, e := Lay(h, textOf(n)); e != api.ErrRange || l != nil {
				t.Errorf("Lay(%v, a text of %d): %d bodies, %v", h, n, len(l), e)
			}
		}
	}
	for _, h := range edgeHeads() {
		for _, n := range []int{16001, 16002, 16014, 70000} {
			if l, e := Lay(h, textOf(n)); e != api.ErrLong || l != nil {
				t.Errorf("Lay(%v, a text of %d): %d bodies, %v", h, n, len(l), e)
			}
		}
	}
	if l, e := Lay(someHead, noughts(16001)); e != api.ErrLong || l != nil { // bytes 0 count as others do
		t.Errorf("%d bodies, %v", len(l), e)
	}
}

// checkRead: with an error the part is to be the zero one.
func checkRead(t *testing.T, body string, want Part, e api.Errno) {
	t.Helper()
	if p, f := Read(body); p != want || f != e {
		t.Errorf("Read(%q): %#v, %v, not %#v, %v", body, p, f, want, e)
	}
}

func TestReadTellsWhatABodyHas(t *testing.T) { // P5.3
	for _, h := range edgeHeads() {
		for _, x := range [][2]int{{0, 1}, {0, 2}, {1, 2}, {255, 256}, {256, 257}, {432, 433}, {433, 434}, {0, 65535}, {65534, 65535}} {
			for _, data := range []string{textOf(37), noughts(37)} {
				checkRead(t, plainBody(h, x[0], x[1], data), Part{Head: h, At: x[0], Of: x[1], Data: data}, api.OK)
			}
		}
	}
	body := "\x09" + "\x00\x01\x02\x03\x04\x05" + "\xf6\x07\x08\x09" + "\x0a\x0b" + "\x0c\x0d" + textOf(37)
	checkRead(t, body, Part{Head: Head{Kind: 9, Gen: 0x0102030405, No: 0xf6070809}, At: 0x0a0b, Of: 0x0c0d, Data: textOf(37)}, api.OK)
}

func TestReadOfAnotherLength(t *testing.T) { // P5.3
	whole := plainBody(someHead, 0, 1, textOf(37))
	for n := range 120 {
		if n == 52 {
			continue
		}
		checkRead(t, noughts(n), Part{}, api.ErrForm) // the length's error comes ahead of the head's
		checkRead(t, strings.Repeat("\xff", n), Part{}, api.ErrForm)
		checkRead(t, strings.Repeat(whole, 3)[:n], Part{}, api.ErrForm)
	}
	checkRead(t, whole[1:], Part{}, api.ErrForm)
	checkRead(t, "\x00"+whole, Part{}, api.ErrForm)
	checkRead(t, whole+"\x00", Part{}, api.ErrForm)
}

func TestReadOfWhatMayNotBe(t *testing.T) { // P5.3
	data := textOf(37)
	for _, gen := range []int{0, 1<<40 + 1, 1<<40 + 256, 1 << 41, 1<<48 - 1} {
		for _, no := range []int{0, 1<<32 - 1} {
			checkRead(t, plainBody(Head{Kind: 1, Gen: gen, No: no}, 0, 1, data), Part{}, api.ErrRange)
			checkRead(t, plainBody(Head{Kind: 1, Gen: gen, No: no}, 1, 0, data), Part{}, api.ErrRange)
		}
	}
	for _, x := range [][2]int{ // no parts, and places that are none of them
		{0, 0}, {1, 0}, {65535, 0},
		{1, 1}, {2, 1}, {2, 2}, {256, 1}, {433, 433}, {434, 433}, {65535, 65535}, {65535, 65534}, {65535, 1},
	} {
		checkRead(t, plainBody(someHead, x[0], x[1], data), Part{}, api.ErrRange)
	}
	checkRead(t, noughts(52), Part{}, api.ErrRange)
	checkRead(t, strings.Repeat("\xff", 52), Part{}, api.ErrRange)
}

// checkJoin: with an error the text and the number are to be zero values.
func checkJoin(t *testing.T, what string, h Head, bodies []string, text string, took int, e api.Errno) {
	t.Helper()
	if s, n, f := Join(h, bodies); s != text || n != took || f != e {
		t.Errorf("%s: a text of %d, of %d bodies, %v, not one of %d, of %d, %v", what, len(s), n, f, len(text), took, e)
	}
}

// behind are bodies that stand behind those of a text, and are nothing to it.
func behind() map[string][]string {
	return map[string][]string{
		"none":      nil,
		"empty":     {""},
		"short":     {textOf(51), textOf(53)},
		"no head":   {noughts(52)},
		"others":    plainLay(Head{Kind: 2, Gen: 258, No: 8}, textOf(40)),
		"the same":  plainLay(someHead, textOf(40)),
		"a part":    plainLay(someHead, textOf(200))[3:],
		"next part": {plainBody(someHead, 1, 2, textOf(37))},
	}
}

func TestJoinOfWhatWasLaid(t *testing.T) { // P5.4, P5.5
	for _, n := range []int{0, 1, 28, 29, 30, 65, 66, 67, 103, 104, 1000, 15976, 15977, 15999, 16000} {
		for _, text := range []string{textOf(n), noughts(n), strings.Repeat("\xff", n)} {
			for name, more := range behind() {
				bodies := append(mustLay(t, someHead, text), more...)
				checkJoin(t, name, someHead, bodies, text, Count(n), api.OK)
			}
		}
	}
	for _, h := range edgeHeads() {
		checkJoin(t, "an edge", h, mustLay(t, h, textOf(67)), textOf(67), 3, api.OK)
	}
}

func TestJoinOfEachLength(t *testing.T) { // P5.5
	for n := 0; n <= 16000; n += 1 + n/60 {
		checkJoin(t, "one of many lengths", someHead, mustLay(t, someHead, textOf(n)), textOf(n), Count(n), api.OK)
	}
}

func TestJoinOfTooFew(t *testing.T) { // P5.4
	checkJoin(t, "nil", someHead, nil, "", 0, api.ErrCut)
	checkJoin(t, "none", someHead, []string{}, "", 0, api.ErrCut)
	for _, n := range []int{0, 29, 30, 66, 67, 400, 16000} {
		bodies := mustLay(t, someHead, textOf(n))
		for k := range bodies {
			checkJoin(t, "a beginning", someHead, bodies[:k], "", 0, api.ErrCut)
		}
	}
	for _, h := range noHeads() { // no body is there that could have another head
		checkJoin(t, "no head", h, nil, "", 0, api.ErrCut)
	}
	checkJoin(t, "one of many", someHead, []string{plainBody(someHead, 0, 65535, textOf(37))}, "", 0, api.ErrCut)
}

func TestJoinOfAnotherOrder(t *testing.T) { // P5.4
	bodies := mustLay(t, someHead, textOf(200))
	for i := range bodies {
		for k := range i {
			l := slices.Clone(bodies)
			l[i], l[k] = l[k], l[i]
			checkJoin(t, "two turned round", someHead, l, "", 0, api.ErrForm)
		}
		l := slices.Insert(slices.Clone(bodies), i, bodies[i])
		if i < len(bodies)-1 { // behind the last one it is nothing
			checkJoin(t, "one twice", someHead, l, "", 0, api.ErrForm)
		}
		l = slices.Delete(slices.Clone(bodies), i, i+1)
		want := api.ErrForm
		if i == len(bodies)-1 {
			want = api.ErrCut
		}
		checkJoin(t, "one left out", someHead, l, "", 0, want)
	}
	slices.Reverse(bodies)
	checkJoin(t, "the last one first", someHead, bodies, "", 0, api.ErrForm)
}

func TestJoinOfAnotherHead(t *testing.T) { // P5.4
	bodies := mustLay(t, someHead, textOf(100))
	others := []Head{{Kind: 1, Gen: 258, No: 7}, {Kind: 2, Gen: 257, No: 7}, {Kind: 2, Gen: 258, No: 8}, {Kind: 2, Gen: 258 + 1<<40, No: 7}, {Kind: 2, Gen: 258, No: 7 + 1<<32}}
	for _, h := range append(others, noHeads()...) {
		checkJoin(t, "a head that is not theirs", h, bodies, "", 0, api.ErrState)
	}
	for _, h := range others[:3] {
		for i := range bodies {
			l := slices.Clone(bodies)
			l[i] = mustLay(t, h, textOf(100))[i]
			checkJoin(t, "one body of another head", someHead, l, "", 0, api.ErrState)
		}
	}
}

// wrongBody is a body that is wrong, with the error that it alone tells.
type wrongBody struct {
	body string
	e    api.Errno
}

// wrong are bodies that are wrong at a place of three, in one thing or in several.
func wrong(at int, data string) map[string]wrongBody {
	other := Head{Kind: 3, Gen: 258, No: 7}
	return map[string]wrongBody{
		"empty":                              {"", api.ErrForm},
		"short":                              {plainBody(someHead, at, 3, data[:36]), api.ErrForm},
		"long":                               {plainBody(someHead, at, 3, data+"\x00"), api.ErrForm},
		"no generation":                      {plainBody(Head{Kind: 2, No: 7}, at, 3, data), api.ErrRange},
		"a great generation":                 {plainBody(Head{Kind: 2, Gen: 1<<40 + 1, No: 7}, at, 3, data), api.ErrRange},
		"no parts":                           {plainBody(someHead, at, 0, data), api.ErrRange},
		"a place that is none":               {plainBody(someHead, 3, 3, data), api.ErrRange},
		"another kind":                       {plainBody(Head{Kind: 1, Gen: 258, No: 7}, at, 3, data), api.ErrState},
		"another generation":                 {plainBody(Head{Kind: 2, Gen: 259, No: 7}, at, 3, data), api.ErrState},
		"another number":                     {plainBody(Head{Kind: 2, Gen: 258, No: 6}, at, 3, data), api.ErrState},
		"another place":                      {plainBody(someHead, (at+1)%3, 3, data), api.ErrForm},
		"short, and no head":                 {noughts(51), api.ErrForm},
		"short, and another head":            {plainBody(other, at, 3, data[:36]), api.ErrForm},
		"another head, and none of them":     {plainBody(other, 3, 3, data), api.ErrRange},
		"another head, and no parts":         {plainBody(other, at, 0, data), api.ErrRange},
		"another head, at another place":     {plainBody(other, (at+1)%3, 3, data), api.ErrState},
		"another head, of another number":    {plainBody(other, at, 4, data), api.ErrState},
		"another place, of another number":   {plainBody(someHead, at+1, 9, data), api.ErrForm},
		"another head, place, and number":    {plainBody(other, at+1, 9, data), api.ErrState},
		"no head, place, and no parts":       {noughts(52), api.ErrRange},
		"a kind alone, and the place behind": {plainBody(Head{Kind: 2}, 9, 3, data), api.ErrRange},
	}
}

func TestJoinTellsWhatIsWrongWithABody(t *testing.T) { // P5.4
	bodies := plainLay(someHead, textOf(100))
	for at := range 3 {
		for name, x := range wrong(at, bodies[at][15:]) {
			l := slices.Clone(bodies)
			l[at] = x.body
			checkJoin(t, name, someHead, l, "", 0, x.e)
			checkJoin(t, name+", the last one", someHead, l[:at+1], "", 0, x.e)
		}
	}
}

func TestJoinTellsOfTheFirstBodyThatIsWrong(t *testing.T) { // P5.4
	bodies := plainLay(someHead, textOf(100))
	for first := range 3 {
		for second := first + 1; second < 3; second++ {
			for a, x := range wrong(first, bodies[first][15:]) {
				for b, y := range wrong(second, bodies[second][15:]) {
					l := slices.Clone(bodies)
					l[first], l[second] = x.body, y.body
					checkJoin(t, a+", then "+b, someHead, l, "", 0, x.e)
				}
			}
		}
	}
}

// A body of another number of parts is wrong, for all that it says itself; where the first one says it, the next is.
func TestJoinOfAnotherNumberOfParts(t *testing.T) { // P5.4
	bodies := plainLay(someHead, textOf(100))
	for at := range 3 {
		for _, of := range []int{1, 2, 4, 259, 65535} {
			if of <= at {
				continue
			}
			l := slices.Clone(bodies)
			l[at] = plainBody(someHead, at, of, bodies[at][15:])
			want := api.ErrForm
			if at == 0 && of == 1 { // the first one stands alone then, and its sum is not that of its bytes
				want = api.ErrSum
			}
			checkJoin(t, "another number", someHead, l, "", 0, want)
			if at == 0 && of > 1 {
				checkJoin(t, "another number of the first, alone", someHead, l[:1], "", 0, api.ErrCut)
			}
		}
	}
}

func TestJoinOfAnotherSum(t *testing.T) { // P5.4
	for _, n := range []int{0, 29, 30, 100} {
		load := loadOf(n, textOf(n), Count(n))
		for _, bit := range []int{0, 7, 8, 31} {
			sum := plainSum(load[4:]) ^ 1<<bit
			checkJoin(t, "another sum", someHead, cutUp(someHead, number(4, sum)+load[4:]), "", 0, api.ErrSum)
		}
		for at := 4; at < len(load); at++ {
			b := []byte(load)
			b[at] ^= 0x40
			checkJoin(t, "another byte behind the sum", someHead, cutUp(someHead, string(b)), "", 0, api.ErrSum)
		}
	}
	whole := loadOf(3, "abc", 1) // the sum is neither that of the text alone, nor of text and length, nor of itself
	for _, part := range []string{"abc", whole[4:11], whole} {
		checkJoin(t, "the sum of a piece", someHead, cutUp(someHead, number(4, plainSum(part))+whole[4:]), "", 0, api.ErrSum)
	}
	long := number(4, 1<<32-1) + textOf(29) // that the sum is wrong comes ahead of the length, and of what is behind
	checkJoin(t, "a sum and a length", someHead, cutUp(someHead, number(4, plainSum(long)^1)+long), "", 0, api.ErrSum)
}

func TestJoinOfAnotherLength(t *testing.T) { // P5.4
	for _, x := range []struct{ length, parts int }{
		{30, 1}, {31, 1}, {66, 1}, {67, 1}, {16000, 1}, {16001, 1}, {1<<31 - 1, 1}, {1 << 31, 1}, {1<<32 - 1, 1}, {1<<32 - 8, 1},
		{0, 2}, {29, 2}, {67, 2}, {1<<32 - 1, 2},
		{29, 3}, {66, 3}, {104, 3},
		{15976, 433}, {16001, 433}, {16013, 433}, {16014, 433},
		{16000, 434}, {16014, 434}, {16050, 434}, {16000, 432},
	} {
		for _, text := range []string{"", textOf(29)} { // where bytes stand behind the text, it is the same error
			load := loadOf(x.length, text, x.parts)
			checkJoin(t, "a length", someHead, cutUp(someHead, load), "", 0, api.ErrForm)
		}
	}
}

func TestJoinOfBytesBehindTheText(t *testing.T) { // P5.4
	for _, x := range []struct{ length, parts int }{{0, 1}, {1, 1}, {28, 1}, {30, 2}, {65, 2}, {67, 3}, {15999, 433}, {16000, 433}} {
		text := textOf(x.length)
		room := x.parts*37 - 8 - x.length
		for k := range room {
			for _, b := range []string{"\x01", "\x20", "\x80", "\xff"} {
				load := loadOf(x.length, text+noughts(k)+b, x.parts)
				checkJoin(t, "a byte behind", someHead, cutUp(someHead, load), "", 0, api.ErrForm)
			}
		}
		checkJoin(t, "bytes 0 behind", someHead, cutUp(someHead, loadOf(x.length, text, x.parts)), text, x.parts, api.OK)
	}
	// Bytes 0 at the text's end belong to it: just its length tells.
	for n := range 30 {
		checkJoin(t, "a text of bytes 0", someHead, cutUp(someHead, loadOf(n, "", 1)), noughts(n), 1, api.OK)
	}
}

// No byte of a body may be another one: neither in the head, nor in the data, nor in what fills it.
func TestJoinOfABodyWithOneByteTurned(t *testing.T) { // P5.5
	for _, n := range []int{0, 2, 29, 30, 66, 67, 150} {
		for name, more := range behind() {
			bodies := mustLay(t, someHead, textOf(n))
			for i, body := range bodies {
				for at := range body {
					for turn := 1; turn < 256; turn++ {
						if name != "none" && turn&(turn-1) != 0 {
							continue
						}
						b := []byte(body)
						b[at] ^= byte(turn)
						l := append(slices.Clone(bodies), more...)
						l[i] = string(b)
						if s, took, e := Join(someHead, l); e == api.OK || s != "" || took != 0 {
							t.Fatalf("a text of %d, body %d, byte %d turned by %d, %s behind: %q, %d, %v", n, i, at, turn, name, s, took, e)
						}
					}
				}
			}
		}
	}
}

func TestJoinOfALongTextWithOneByteTurned(t *testing.T) { // P5.5
	bodies := mustLay(t, someHead, textOf(16000))
	for i, body := range bodies {
		for _, at := range []int{0, 3, 10, 12, 14, 15, 33, 51} {
			b := []byte(body)
			b[at] ^= 1 << (i % 8)
			l := slices.Clone(bodies)
			l[i] = string(b)
			if s, took, e := Join(someHead, l); e == api.OK || s != "" || took != 0 {
				t.Fatalf("body %d, byte %d: a text of %d, %d, %v", i, at, len(s), took, e)
			}
		}
	}
}

// plainRead and plainJoin go by the chapter's words, without octet and crc.
func plainRead(body string) (Part, api.Errno) {
	if len(body) != 52 {
		return Part{}, api.ErrForm
	}
	field := func(from, to int) (n int) {
		for _, b := range []byte(body[from:to]) {
			n = n*256 + int(b)
		}
		return n
	}
	p := Part{Head: Head{Kind: body[0], Gen: field(1, 7), No: field(7, 11)}, At: field(11, 13), Of: field(13, 15), Data: body[15:]}
	if p.Head.Gen == 0 || p.Head.Gen > 1<<40 || p.Of == 0 || p.At >= p.Of {
		return Part{}, api.ErrRange
	}
	return p, api.OK
}

func plainJoin(h Head, bodies []string) (string, int, api.Errno) {
	load, of := "", 1
	for i := 0; i < of; i++ {
		if i == len(bodies) {
			return "", 0, api.ErrCut
		}
		p, e := plainRead(bodies[i])
		if i == 0 {
			of = p.Of
		}
		switch {
		case e != api.OK:
			return "", 0, e
		case p.Head != h:
			return "", 0, api.ErrState
		case p.At != i || p.Of != of:
			return "", 0, api.ErrForm
		}
		load += p.Data
	}
	if load[:4] != number(4, plainSum(load[4:])) {
		return "", 0, api.ErrSum
	}
	for n := range 16001 {
		if number(4, n) == load[4:8] && plainParts(n) == of && load[8+n:] == noughts(len(load)-8-n) {
			return load[8 : 8+n], of, api.OK
		}
	}
	return "", 0, api.ErrForm
}

// spoilt turns something of bodies, or leaves them as they are.
func spoilt(r *rand.Rand, bodies []string) []string {
	l := slices.Clone(bodies)
	i := r.Intn(len(l))
	switch r.Intn(8) {
	case 0:
		l = l[:i]
	case 1:
		k := r.Intn(len(l))
		l[i], l[k] = l[k], l[i]
	case 2:
		l = slices.Insert(l, i, l[r.Intn(len(l))])
	case 3:
		b := []byte(l[i])
		b[r.Intn(15)] = byte(r.Intn(4))
		l[i] = string(b)
	case 4:
		l[i] = l[i][:r.Intn(52)] + l[r.Intn(len(l))][r.Intn(52):]
	case 5: // a length, and bytes behind its text, that may or may not be
		n := r.Intn(37*len(l) + 8)
		l = cutUp(someHead, loadOf(n, textOf(r.Intn(37*len(l)-7)), len(l)))
	case 6:
		b := []byte(l[i])
		b[15+r.Intn(37)] ^= 1 << r.Intn(8)
		l[i] = string(b)
	}
	return l
}

func isNoBody(s string) bool { return len(s) != 52 }

func TestBodiesAtRandom(t *testing.T) { // P5.2, P5.3, P5.4
	r := rand.New(rand.NewSource(5))
	found := map[api.Errno]int{}
	for range 20000 {
		text := make([]byte, r.Intn(150))
		r.Read(text)
		bodies := mustLay(t, someHead, string(text))
		if !slices.Equal(bodies, plainLay(someHead, string(text))) {
			t.Fatalf("Lay of %q: %q", text, bodies)
		}
		for range r.Intn(3) {
			if len(bodies) > 0 && !slices.ContainsFunc(bodies, isNoBody) {
				bodies = spoilt(r, bodies)
			}
		}
		for _, b := range bodies {
			p, e := plainRead(b)
			checkRead(t, b, p, e)
		}
		s, n, e := plainJoin(someHead, bodies)
		found[e]++
		checkJoin(t, "at random", someHead, bodies, s, n, e)
	}
	for _, e := range []api.Errno{api.OK, api.ErrForm, api.ErrRange, api.ErrState, api.ErrCut, api.ErrSum} {
		if found[e] < 50 {
			t.Errorf("only %d of the bodies told %v", found[e], e)
		}
	}
}

// What comes in stays as it was, and its spare room, too; the same is answered again.
func TestWhatComesInStays(t *testing.T) { // P5.2, P5.3, P5.4
	laid := mustLay(t, someHead, textOf(100))
	for k := range len(laid) + 1 {
		whole := append(slices.Clone(laid), "spare", "spare")
		was := slices.Clone(whole)
		bodies := whole[:k:len(whole)]
		a, n, e := Join(someHead, bodies)
		b, m, f := Join(someHead, bodies)
		if a != b || n != m || e != f || !slices.Equal(whole, was) {
			t.Errorf("of %d bodies: %q, %v, then %q, %v, and the list is %q", k, a, e, b, f, whole)
		}
	}
	first, second := mustLay(t, someHead, textOf(100)), mustLay(t, someHead, textOf(100))
	for i := range first[:cap(first)] {
		first[:cap(first)][i] = "spoilt"
	}
	if !slices.Equal(second, laid) {
		t.Errorf("an answer shares its memory with another one: %q", second)
	}
}

func TestTheExample(t *testing.T) { // P5.1, P5.2
	if Longest(1) != 29 || Count(29) != 1 || Count(30) != 2 {
		t.Error(Longest(1), Count(29), Count(30))
	}
	if a, b := mustLay(t, someHead, textOf(29)), mustLay(t, someHead, textOf(30)); len(a) != 1 || len(b) != 2 {
		t.Error(len(a), len(b))
	}
}
