package moment

import (
	"math/rand"
	"sync"
	"testing"

	"errand/api"
)

// goesRound asks for a value's text, and for the value of that text.
func goesRound(t *testing.T, v Value, want string) {
	s, no := Print(v)
	if s != want || no != api.OK {
		t.Helper()
		t.Fatalf("Print(%v): %q, %d, not %q", v, s, no, want)
	}
	if again, no := Parse(s); again != v || no != api.OK {
		t.Helper()
		t.Fatalf("Parse(%q): %v, %d, not %v", s, again, no, v)
	}
}

// P11.2, P11.3, P11.6
func TestExample(t *testing.T) {
	v, no := Parse("19970714T133000Z")
	if v != (Value{UTC, 63004483800}) || no != api.OK {
		t.Errorf("%v, %d", v, no)
	}
	if n, sec := Split(v); n != 729218 || sec != 48600 {
		t.Errorf("%d, %d", n, sec)
	}
	goesRound(t, v, "19970714T133000Z")
}

// P11.6
func TestAllDaysGoRound(t *testing.T) {
	if len(days) != lastDay+1 {
		t.Fatalf("%d days", len(days))
	}
	before := ""
	for n, day := range days {
		text := day.text()
		goesRound(t, Value{Date, n * 86400}, text)
		if text <= before {
			t.Fatalf("%q behind %q", text, before)
		}
		before = text
		switch n % 4 {
		case 0:
			goesRound(t, Value{Local, n * 86400}, text+"T000000")
		case 1:
			goesRound(t, Value{UTC, n * 86400}, text+"T000000Z")
		case 2:
			goesRound(t, Value{Local, n*86400 + 86399}, text+"T235959")
		case 3:
			goesRound(t, Value{UTC, n*86400 + 86399}, text+"T235959Z")
		}
	}
}

// P11.6
func TestAllSecondsOfADayGoRound(t *testing.T) {
	for _, n := range []int{0, 729218, lastDay} {
		local, utc := "", ""
		for sec := range 86400 {
			first, second := plainText(Local, n*86400+sec), plainText(UTC, n*86400+sec)
			goesRound(t, Value{Local, n*86400 + sec}, first)
			goesRound(t, Value{UTC, n*86400 + sec}, second)
			if first <= local || second <= utc {
				t.Fatalf("%q behind %q, %q behind %q", first, local, second, utc)
			}
			local, utc = first, second
		}
	}
}

// P11.6
func TestAllTextsGoRound(t *testing.T) {
	r := rand.New(rand.NewSource(1107))
	for range 300000 {
		v := randomValue(r)
		s, no := Print(v)
		if no != api.OK {
			continue
		}
		if again, no := Parse(s); again != v || no != api.OK {
			t.Fatalf("Parse(%q): %v, %d, not %v", s, again, no, v)
		}
	}
	for range 300000 {
		s := []byte(plainText(kinds[r.Intn(3)], r.Intn(lastSec+1)))
		s[r.Intn(len(s))] = byte('0' + r.Intn(10))
		v, no := Parse(string(s))
		if no != api.OK {
			continue
		}
		if again, no := Print(v); again != string(s) || no != api.OK {
			t.Fatalf("Print(%v): %q, %d, not %q", v, again, no, s)
		}
	}
}

// P11.1 to P11.4: of what is parsed, and of what is at a second, all else may be asked.
func TestAnswersMayBe(t *testing.T) {
	for _, kind := range kinds {
		for _, sec := range goodSecs() {
			v, no := At(kind, sec)
			if no != api.OK || Check(v) != api.OK {
				t.Fatalf("At(%d, %d): %v, %d", kind, sec, v, no)
			}
			if n, of := Split(v); n*86400+of != v.Sec || of < 0 || of >= 86400 {
				t.Fatalf("Split(%v): %d, %d", v, n, of)
			}
			goesRound(t, v, plainText(v.Kind, v.Sec))
		}
	}
}

// Rule 4: what is asked at the same time, or ahead, changes no answer.
func TestAnswersHangOnArgumentsAlone(t *testing.T) {
	var all sync.WaitGroup
	wrong := make([]int, 8)
	for i := range wrong {
		all.Go(func() {
			r := rand.New(rand.NewSource(int64(1108 + i)))
			for range 20000 {
				v := Value{kinds[1+r.Intn(2)], r.Intn(lastSec + 1)}
				s, no := Print(v)
				again, no2 := Parse(s)
				_, no3 := Parse(s + "0")
				_, no4 := Print(Value{v.Kind, -1 - v.Sec})
				if s != plainText(v.Kind, v.Sec) || again != v || no != api.OK || no2 != api.OK || no3 != api.ErrForm || no4 != api.ErrRange {
					wrong[i]++
				}
			}
		})
	}
	all.Wait()
	for i, n := range wrong {
		if n != 0 {
			t.Errorf("goroutine %d: %d wrong", i, n)
		}
	}
}
