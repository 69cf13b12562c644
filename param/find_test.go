package param

import (
	"slices"
	"strings"
	"testing"
)

// finds holds the parameter of a name against the one that is handed in.
func finds(t *testing.T, l []Param, name string, want Param) {
	t.Helper()
	p, ok := Find(l, name)
	if !ok || !alike([]Param{p}, []Param{want}) {
		t.Errorf("Find(%q, %q): %q, %t, not %q", l, name, p, ok, want)
	}
}

// lacks tells that a name is not found.
func lacks(t *testing.T, l []Param, name string) {
	t.Helper()
	if p, ok := Find(l, name); ok || p.Name != "" || p.Vals != nil {
		t.Errorf("Find(%q, %q): %q, %t", l, name, p, ok)
	}
}

// sames holds whether parameters are the same, in both orders, against what is handed in.
func sames(t *testing.T, want bool, a, b []Param) {
	t.Helper()
	aWas, bWas := clone(a), clone(b)
	if Same(a, b) != want || Same(b, a) != want {
		t.Errorf("Same(%q, %q): %t, the other way round %t", a, b, Same(a, b), Same(b, a))
	}
	if !Same(a, clone(a)) || !Same(clone(b), b) || !Same(a, a) {
		t.Errorf("%q, %q: not the same as itself", a, b)
	}
	if !alike(a, aWas) || !alike(b, bWas) {
		t.Errorf("%q, %q are %q, %q", aWas, bWas, a, b)
	}
}

// list makes a list of parameters.
func list(l ...Param) []Param {
	return l
}

// P17.4
func TestFind(t *testing.T) {
	l := []Param{one("X", "a", "b"), one("Y", "c"), one("LANGUAGE", ""), one("X", "d"), one("Z")}
	finds(t, l, "X", one("X", "a", "b"))
	finds(t, l, "Y", one("Y", "c"))
	finds(t, l, "LANGUAGE", one("LANGUAGE", ""))
	finds(t, l, "Z", one("Z"))
	finds(t, l[1:], "X", one("X", "d"))
	finds(t, []Param{one("X", "a"), one("X", "b")}, "X", one("X", "a"))
	for i, p := range some(20) {
		finds(t, some(20), p.Name, p)
		finds(t, append(some(20), one(p.Name, "w")), p.Name, p)
		lacks(t, some(i), p.Name)
	}
}

// P17.4
func TestFindNone(t *testing.T) {
	l := []Param{one("X", "a"), one("LANGUAGE", "Y")}
	for _, name := range []string{"", "Y", "x", "XX", "X ", " X", "a", "L", "LANGUAG", "language", "LANGUAGEX", "X=", ";X", "X\x00", "\xff"} {
		lacks(t, l, name)
		lacks(t, nil, name)
		lacks(t, []Param{}, name)
	}
}

// P17.4: names are held against each other as they are, be they names or not.
func TestFindOtherNames(t *testing.T) {
	l := []Param{one("x", "a"), one("", "b"), one("X", "c"), one("\xff", "d"), one(long, "e")}
	finds(t, l, "x", one("x", "a"))
	finds(t, l, "", one("", "b"))
	finds(t, l, "X", one("X", "c"))
	finds(t, l, "\xff", one("\xff", "d"))
	finds(t, l, long, one(long, "e"))
	lacks(t, l, "\xfe")
	lacks(t, l, long+"a")
}

// P17.4, rule 3: what is told shares nothing with the list.
func TestFindTellsNewMemory(t *testing.T) {
	room := []string{"a", "b", "c", "d"}
	l := []Param{{"X", room[:2]}, {"Y", room[2:]}}
	p, _ := Find(l, "X")
	p.Vals = append(p.Vals, "x", "x")
	p.Vals[0] = "y"
	p.Name = "Q"
	if !slices.Equal(room, []string{"a", "b", "c", "d"}) || !alike(l, []Param{one("X", "a", "b"), one("Y", "c", "d")}) {
		t.Errorf("%q, %q", room, l)
	}
	q, _ := Find(l, "Y")
	room[2] = "z"
	if !slices.Equal(q.Vals, []string{"c", "d"}) {
		t.Errorf("%q", q)
	}
}

// P17.4
func TestSame(t *testing.T) {
	x, y := one("X", "a", "b"), one("Y", "c")
	sames(t, true, nil, nil)
	sames(t, true, nil, []Param{})
	sames(t, true, list(x), list(one("X", "a", "b")))
	sames(t, true, list(x, y), list(x, y))
	sames(t, true, list(x, x), list(x, x))
	sames(t, true, list(Param{"X", nil}), list(Param{"X", []string{}}))
	sames(t, true, some(20), some(20))
	sames(t, true, list(one("x", "\xff", long)), list(one("x", "\xff", long)))
}

// P17.4: lists of other lengths, names, values and orders.
func TestNotSame(t *testing.T) {
	x, y := one("X", "a", "b"), one("Y", "c")
	sames(t, false, nil, list(x))
	sames(t, false, nil, list(Param{}))
	sames(t, false, list(x), list(x, y))
	sames(t, false, list(y), list(x, y))
	sames(t, false, list(x), list(x, x))
	sames(t, false, list(x, y), list(y, x))
	sames(t, false, list(x), list(one("Y", "a", "b")))
	sames(t, false, list(x), list(one("x", "a", "b")))
	sames(t, false, list(x), list(one("XX", "a", "b")))
	sames(t, false, list(x), list(one("X", "a", "c")))
	sames(t, false, list(x), list(one("X", "a", "B")))
	sames(t, false, list(x), list(one("X", "c", "b")))
	sames(t, false, list(x), list(one("X", "b", "a")))
	sames(t, false, list(x), list(one("X", "a")))
	sames(t, false, list(x), list(one("X", "b")))
	sames(t, false, list(x), list(one("X")))
	sames(t, false, list(x), list(one("X", "a", "b", "")))
	sames(t, false, list(x), list(one("X", "", "a", "b")))
	sames(t, false, list(one("X")), list(one("X", "")))
	sames(t, false, list(one("X", "a"), one("Y", "b")), list(one("X", "b"), one("Y", "a")))
	sames(t, false, list(one("X", "a"), one("Y", "b")), list(one("Y", "a"), one("X", "b")))
}

// P17.4: the same bytes, but parted elsewhere.
func TestNotSameWherePartedElsewhere(t *testing.T) {
	sames(t, false, list(one("X", "ab", "c")), list(one("X", "a", "bc")))
	sames(t, false, list(one("X", "a,b")), list(one("X", "a", "b")))
	sames(t, false, list(one("X", "ab", "")), list(one("X", "", "ab")))
	sames(t, false, list(one("X", "a"), one("Y")), list(one("X"), one("Y", "a")))
	sames(t, false, list(one("X", "a", "b"), one("Y", "c")), list(one("X", "a"), one("Y", "b", "c")))
	sames(t, false, list(one("XY", "a")), list(one("X", "Ya")))
	sames(t, false, list(one("X", "a;Y=b")), list(one("X", "a"), one("Y", "b")))
	sames(t, false, list(one("X=a", "b")), list(one("X", "a=b")))
}

// P17.4: one byte is another one.
func TestNotSameWithAnotherByte(t *testing.T) {
	for i := range 6 {
		for _, v := range []string{"w", "", "V", "v ", "vv", "\xff"} {
			l := some(6)
			l[i].Vals[0] = v
			sames(t, false, some(6), l)
			l = some(6)
			l[i].Name = v
			sames(t, false, some(6), l)
			l = some(6)
			l[i].Vals = append(l[i].Vals, v)
			sames(t, false, some(6), l)
		}
		sames(t, false, some(6), slices.Delete(some(6), i, i+1))
		sames(t, false, some(6), some(i))
	}
	sames(t, false, list(one("X", strings.Repeat("a", 100000))), list(one("X", strings.Repeat("a", 99999)+"b")))
}
