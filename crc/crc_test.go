package crc

import (
	"math"
	"math/rand"
	"strings"
	"testing"
)

// plainOver lets a text go over a number bit by bit, as the chapter's words say, without a table.
func plainOver(c uint32, s string) uint32 {
	for i := range len(s) {
		c ^= uint32(s[i])
		for range 8 {
			low := c & 1
			c >>= 1
			if low == 1 {
				c ^= 0xEDB88320
			}
		}
	}
	return c
}

func plainSum(s string) uint32 { return ^plainOver(0xFFFFFFFF, s) }

func noughts(n int) string { return strings.Repeat("\x00", n) }

func randomText(r *rand.Rand, n int) string {
	b := make([]byte, n)
	r.Read(b)
	return string(b)
}

// someTexts are the empty one, each byte alone, and texts of many lengths, the same at each run.
func someTexts() []string {
	texts := []string{"", "123456789", "errand", noughts(1), noughts(64), strings.Repeat("\xff", 64)}
	for b := range 256 {
		texts = append(texts, string([]byte{byte(b)}))
	}
	r := rand.New(rand.NewSource(2))
	for n := 2; n <= 300; n++ {
		texts = append(texts, randomText(r, n))
	}
	return append(texts, randomText(r, 16000), randomText(r, 70001))
}

// someSums are numbers to go on from, whether or not a short text has them.
func someSums() []uint32 {
	sums := []uint32{0, 1, 0x80000000, 0xFFFFFFFF, 0xEDB88320, 0xCBF43926, 0x0F0F0F0F, 0xF0F0F0F0}
	for i := range 32 {
		sums = append(sums, 1<<i, ^(1 << i))
	}
	return sums
}

func TestSumOfKnownTexts(t *testing.T) { // P2.1
	for _, x := range []struct {
		s   string
		sum uint32
	}{
		{"", 0},
		{"123456789", 0xCBF43926},
		{"a", 0xE8B7BE43},
		{"abc", 0x352441C2},
		{"The quick brown fox jumps over the lazy dog", 0x414FA339},
		{"\x00", 0xD202EF8D},
		{"\xff", 0xFF000000},
		{"\xff\xff\xff\xff", 0xFFFFFFFF},
		{noughts(4), 0x2144DF1C},
		{noughts(32), 0x190A55AD},
		{strings.Repeat("\xff", 32), 0xFF6CAB0B},
	} {
		if sum := Sum(x.s); sum != x.sum {
			t.Errorf("Sum(%q): %08X, not %08X", x.s, sum, x.sum)
		}
	}
}

func TestSumIsTheStepsOfItsBits(t *testing.T) { // P2.1
	for _, s := range someTexts() {
		if sum, want := Sum(s), plainSum(s); sum != want {
			t.Errorf("Sum of a text of %d: %08X, not %08X", len(s), sum, want)
		}
	}
}

func TestGoIsTheStepsOfItsBits(t *testing.T) { // P2.2
	for _, c := range someSums() {
		for _, s := range []string{"", "a", "\x00", "\xff", "123456789", noughts(9), "\x80\x01\x7f\xfe"} {
			if sum, want := Go(c, s), ^plainOver(^c, s); sum != want {
				t.Errorf("Go(%08X, %q): %08X, not %08X", c, s, sum, want)
			}
		}
		if sum := Go(c, ""); sum != c {
			t.Errorf("Go(%08X) over nothing: %08X", c, sum)
		}
	}
}

func TestGoOfNoughtIsSum(t *testing.T) { // P2.2
	for _, s := range someTexts() {
		if sum, want := Go(0, s), Sum(s); sum != want {
			t.Errorf("Go(0) over a text of %d: %08X, not %08X", len(s), sum, want)
		}
	}
}

func TestPartsMakeTheSumOfTheWhole(t *testing.T) { // P2.2, P2.3
	r := rand.New(rand.NewSource(3))
	for _, s := range []string{"", "x", "123456789", noughts(40), strings.Repeat("\xff", 40), randomText(r, 600)} {
		want := plainSum(s)
		for at := range len(s) + 1 {
			a, b := s[:at], s[at:]
			if sum := Go(Sum(a), b); sum != want {
				t.Errorf("a text of %d parted at %d: Go tells %08X, not %08X", len(s), at, sum, want)
			}
			if sum := Join(Sum(a), Sum(b), len(b)); sum != want {
				t.Errorf("a text of %d parted at %d: Join tells %08X, not %08X", len(s), at, sum, want)
			}
		}
	}
}

func TestManyPartsMakeTheSumOfTheWhole(t *testing.T) { // P2.2, P2.3
	r := rand.New(rand.NewSource(4))
	whole := ""
	gone, joined := uint32(0), uint32(0)
	for range 60 {
		part := randomText(r, r.Intn(50))
		whole += part
		gone = Go(gone, part)
		joined = Join(joined, Sum(part), len(part))
		if want := plainSum(whole); gone != want || joined != want {
			t.Fatalf("behind %d bytes: Go tells %08X, Join %08X, not %08X", len(whole), gone, joined, want)
		}
	}
}

func TestJoinGoesOverNoughts(t *testing.T) { // P2.3
	const b = 0x12345678
	for _, a := range someSums() {
		for _, n := range []int{0, 1, 2, 3, 4, 5, 64, 15999, 16000} {
			if sum, want := Join(a, b, n), plainOver(a, noughts(n))^b; sum != want {
				t.Errorf("Join(%08X, %08X, %d): %08X, not %08X", a, uint32(b), n, sum, want)
			}
		}
	}
}

func TestJoinHoldsItsLength(t *testing.T) { // P2.3
	const a, b = 0xCBF43926, 0x9ABCDEF0
	for _, n := range []int{0, -1, -2, -16000, math.MinInt32, math.MinInt} {
		if sum := Join(a, b, n); sum != a^b {
			t.Errorf("Join with %d: %08X, not %08X", n, sum, uint32(a^b))
		}
	}
	last := plainOver(a, noughts(16000)) ^ b
	for _, n := range []int{16000, 16001, 16002, 32000, 65536, math.MaxInt32, math.MaxInt} {
		if sum := Join(a, b, n); sum != last {
			t.Errorf("Join with %d: %08X, not %08X", n, sum, last)
		}
	}
	if sum := Join(a, b, 15999); sum == last || sum != plainOver(a, noughts(15999))^b {
		t.Errorf("Join with 15999: %08X", sum)
	}
}

func TestJoinOfTheLongestSecondText(t *testing.T) { // P2.3
	r := rand.New(rand.NewSource(5))
	a, b := randomText(r, 333), randomText(r, 16001)
	if sum, want := Join(Sum(a), Sum(b[:16000]), 16000), plainSum(a+b[:16000]); sum != want {
		t.Errorf("a second text of 16000: %08X, not %08X", sum, want)
	}
	// One byte more is not counted, so that this is not the sum of both.
	if sum, want := Join(Sum(a), Sum(b), 16001), plainSum(a+b); sum == want {
		t.Errorf("a second text of 16001: %08X", sum)
	}
}

// turned is a text in which those bits are turned that bits has, from a bit's place in the text on.
func turned(s string, at int, bits uint64) string {
	b := []byte(s)
	for ; bits != 0; bits >>= 1 {
		b[at/8] ^= byte(bits&1) << (at % 8)
		at++
	}
	return string(b)
}

// checkTurned turns bits wherever width of them have room in the text.
func checkTurned(t *testing.T, s string, width int, bits uint64) {
	t.Helper()
	sum := Sum(s)
	for at := 0; at+width <= 8*len(s); at++ {
		if Sum(turned(s, at, bits)) == sum {
			t.Fatalf("a text of %d: the bits %b turned from %d on leave the sum as it was", len(s), bits, at)
		}
	}
}

func TestTurnedBitsShow(t *testing.T) { // P2.4
	r := rand.New(rand.NewSource(6))
	for _, s := range []string{noughts(1), "a", "ab", "abcd", noughts(12), strings.Repeat("\xff", 12), randomText(r, 64)} {
		// Every pattern of up to ten bits: one bit alone is the least, and most of them lie across a byte's end.
		for bits := uint64(1); bits < 1<<10; bits++ {
			width := 10
			for width > 1 && bits>>(width-1) == 0 {
				width--
			}
			checkTurned(t, s, width, bits)
		}
		for width := 1; width <= 32; width++ {
			all := uint64(1)<<width - 1
			checkTurned(t, s, width, all)
			checkTurned(t, s, width, 1|1<<(width-1))
			for range 20 {
				checkTurned(t, s, width, r.Uint64()&all|1)
			}
		}
	}
}

// Of 33 bits in a row there is one pattern that the sum can't show: so up to 32 are promised, no more.
func TestThirtyThreeBitsMayHide(t *testing.T) { // P2.4, and the number that P2.1 names
	const hidden = 0x1DB710641
	s := "what is laid over sheets"
	for at := 0; at+33 <= 8*len(s); at++ {
		if Sum(turned(s, at, hidden)) != Sum(s) {
			t.Fatalf("turned from %d on, the sum is another one", at)
		}
	}
}

func exclusiveOr(texts ...string) string {
	b := make([]byte, len(texts[0]))
	for _, s := range texts {
		for i := range b {
			b[i] ^= s[i]
		}
	}
	return string(b)
}

func TestThreeTextsOfOneLength(t *testing.T) { // P2.4
	r := rand.New(rand.NewSource(7))
	for n := range 200 {
		a, b, c := randomText(r, n), randomText(r, n), randomText(r, n)
		for _, x := range [][3]string{{a, b, c}, {a, a, b}, {a, a, a}, {a, b, noughts(n)}, {a, b, strings.Repeat("\xff", n)}} {
			sums := Sum(x[0]) ^ Sum(x[1]) ^ Sum(x[2])
			if want := Sum(exclusiveOr(x[:]...)); sums != want {
				t.Fatalf("texts of %d: %08X, not %08X", n, sums, want)
			}
		}
	}
}

func TestAnswersHangOnArgumentsAlone(t *testing.T) { // P2.1, P2.2, P2.3, rule 4
	for range 3 {
		if Sum("123456789") != 0xCBF43926 || Go(Sum("1234"), "56789") != 0xCBF43926 || Join(Sum("1234"), Sum("56789"), 5) != 0xCBF43926 {
			t.Error("another answer the next time")
		}
	}
}
