package param

import (
	"math/rand"
	"strings"
	"sync"
	"testing"

	"errand/api"
)

// letters are all that matters to a text's values, and what does not.
const letters = ";=,:\"^n'a\n\xc3\xa9"

// P17.3
func TestExample(t *testing.T) {
	l, n, err := Parse(`;X=a,"b;c":v`)
	if len(l) != 1 || l[0].Name != "X" || strings.Join(l[0].Vals, " and ") != "a and b;c" || n != 10 || err != nil {
		t.Errorf("%q, %d, %v", l, n, err)
	}
}

// eachText calls a function with all texts of so many of some bytes.
func eachText(bytes string, size int, do func(s string)) {
	l := make([]byte, size)
	count := 1
	for range size {
		count *= len(bytes)
	}
	for n := range count {
		rest := n
		for i := range l {
			l[i] = bytes[rest%len(bytes)]
			rest /= len(bytes)
		}
		do(string(l))
	}
}

// P17.3, P17.5: all texts of up to four bytes that matter, alone and as values.
func TestAllShortTexts(t *testing.T) {
	for size := range 5 {
		eachText(letters, size, func(s string) {
			checkParse(t, s)
			checkParse(t, ";X="+s)
			checkParse(t, `;X="`+s+`"`)
			checkParse(t, ";X=a;y=b,"+s+",c;a="+s)
		})
	}
}

// P17.3, P17.5: all texts of up to seven bytes that tell where parameters and values end.
func TestAllShortTextsOfSigns(t *testing.T) {
	for size := range 8 {
		eachText(";=,:\"X", size, func(s string) {
			checkParse(t, s)
			checkParse(t, ";A="+s)
		})
	}
}

// P17.1, P17.2, P17.5: all lists of up to two values of up to two bytes that matter.
func TestAllShortValues(t *testing.T) {
	var values []string
	for size := range 3 {
		eachText(letters, size, func(s string) { values = append(values, s) })
	}
	for _, x := range values {
		checkPrint(t, []Param{one("X", x)})
		for _, y := range values {
			checkPrint(t, []Param{one("X", x, y)})
			checkPrint(t, []Param{one("X", x), one("Y", y)})
		}
	}
}

// P17.1, P17.3: all values of two bytes of any kind, quoted and not.
func TestAllPairsOfBytes(t *testing.T) {
	for n := range 1 << 16 {
		s := string([]byte{byte(n >> 8), byte(n)})
		checkPrint(t, []Param{one("X", s)})
		checkParse(t, ";X="+s)
		checkParse(t, `;X="`+s+`"`)
		checkParse(t, ";"+s+"=a")
	}
}

// P17.1, P17.2, P17.5
func TestRandomLists(t *testing.T) {
	r := rand.New(rand.NewSource(1701))
	may := 0
	for range 30000 {
		l := randomList(r)
		checkPrint(t, l)
		if CheckAll(l) == api.OK && len(l) > 1 {
			may++
		}
	}
	if may < 6000 {
		t.Errorf("only %d lists may be", may)
	}
}

// P17.3, P17.5
func TestRandomTexts(t *testing.T) {
	r := rand.New(rand.NewSource(1702))
	var told [32]int
	for range 30000 {
		s := randomText(r)
		checkParse(t, s)
		told[plainParse(s).e]++
	}
	for _, e := range []api.Errno{api.OK, api.ErrMany, api.ErrForm, api.ErrTwice, api.ErrCut, api.ErrText, api.ErrLong} {
		if told[e] < 200 {
			t.Errorf("only %d texts of %d", told[e], e)
		}
	}
}

// P17.4
func TestRandomFindAndSame(t *testing.T) {
	r := rand.New(rand.NewSource(1703))
	for range 20000 {
		a, b := randomList(r), randomList(r)
		if Same(a, b) != alike(a, b) || !Same(a, clone(a)) {
			t.Fatalf("Same(%q, %q): %t", a, b, Same(a, b))
		}
		for _, name := range names {
			want, found := Param{}, false
			for i := len(a) - 1; i >= 0; i-- {
				if a[i].Name == name {
					want, found = a[i], true
				}
			}
			if p, ok := Find(a, name); ok != found || !alike([]Param{p}, []Param{want}) {
				t.Fatalf("Find(%q, %q): %q, %t", a, name, p, ok)
			}
		}
	}
}

// Rule 1: very long texts and lists end as well.
func TestVeryLongTexts(t *testing.T) {
	const n = 1000000
	refuses(t, ";"+strings.Repeat("x", n), api.ErrForm, 1)
	refuses(t, ";X="+strings.Repeat("a", n), api.ErrLong, 3)
	refuses(t, ";X="+strings.Repeat("^", n), api.ErrLong, 3)
	refuses(t, `;X="`+strings.Repeat("a", n), api.ErrCut, n+4)
	refuses(t, ";X="+strings.Repeat(",", n), api.ErrMany, 9)
	refuses(t, strings.Repeat(";", n), api.ErrForm, 1)
	parses(t, strings.Repeat("\"", n), 0)
	refuses(t, `;X=`+strings.Repeat("\"", n), api.ErrForm, 5)
	parses(t, ";X=a:"+strings.Repeat(";X=\"", n), 4, one("X", "a"))
	all := []Param{one("X", times("a", n)...)}
	if e := CheckAll(all); e != api.ErrMany {
		t.Errorf("%d", e)
	}
	if !Same(all, clone(all)) {
		t.Error("not the same")
	}
	if p, ok := Find(all, "X"); !ok || len(p.Vals) != n {
		t.Errorf("%d, %t", len(p.Vals), ok)
	}
	if Name(strings.Repeat("X", n)) {
		t.Error("a name")
	}
}

// Rule 4: what is asked at the same time, or ahead, changes no answer.
func TestAnswersHangOnArgumentsAlone(t *testing.T) {
	var all sync.WaitGroup
	wrong := make([]int, 8)
	for k := range wrong {
		all.Go(func() {
			r := rand.New(rand.NewSource(int64(1710 + k)))
			for range 3000 {
				s, l := randomText(r), randomList(r)
				e := plainCheckAll(l)
				text, got := PrintAll(l)
				if !matches(s, plainParse(s)) || got != e || CheckAll(l) != e || e == api.OK && text != plainText(l) {
					wrong[k]++
				}
			}
		})
	}
	all.Wait()
	for k, n := range wrong {
		if n != 0 {
			t.Errorf("goroutine %d: %d wrong", k, n)
		}
	}
}
