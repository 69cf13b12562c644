package line

import (
	"slices"
	"strconv"
	"strings"
	"testing"

	"errand/param"
)

// list makes lines of some names, each with its place as the value, and in a parameter.
func list(names string) []Line {
	var l []Line
	for i, name := range strings.Fields(names) {
		n := strconv.Itoa(i)
		l = append(l, of(name, n, one("AT", n, "x")))
	}
	return l
}

// told tells the names and the values of lines.
func told(l []Line) string {
	var all []string
	for _, x := range l {
		all = append(all, x.Name+x.Value)
	}
	return strings.Join(all, " ")
}

// P18.4
func TestCount(t *testing.T) {
	for _, c := range []struct {
		names, name string
		want        int
	}{{"", "X", 0}, {"", "", 0}, {"X", "X", 1}, {"X", "Y", 0}, {"X Y X", "X", 2}, {"X Y X", "Y", 1}, {"X Y X", "Z", 0}, {"X X X X", "X", 4}, {"X XX -X X- x", "X", 1}, {"x X x", "x", 2}, {"Summary", "SUMMARY", 0}, {"X Y", "", 0}} {
		l := list(c.names)
		if n := Count(l, c.name); n != c.want {
			t.Errorf("Count(%q, %q): %d, not %d", c.names, c.name, n, c.want)
		}
		checkLists(t, l, of(c.name, "v"))
	}
	if n := Count([]Line{{}, of("X", "v"), {}}, ""); n != 2 {
		t.Errorf("%d of no name", n)
	}
	if n := Count(slices.Repeat(list("X Y"), 1000), "Y"); n != 1000 {
		t.Errorf("%d of a thousand", n)
	}
}

// P18.4
func TestGet(t *testing.T) {
	for _, c := range []struct {
		names, name string
		want        int
	}{{"", "X", -1}, {"", "", -1}, {"X", "X", 0}, {"X", "Y", -1}, {"X Y X", "X", 0}, {"X Y X", "Y", 1}, {"X Y X", "Z", -1}, {"Y Z X X", "X", 2}, {"Y Z W X", "X", 3}, {"XX -X X- x X", "X", 4}, {"x X", "X", 1}, {"X x", "x", 1}, {"Summary", "SUMMARY", -1}, {"X Y", "", -1}} {
		l := list(c.names)
		want := Line{}
		if c.want >= 0 {
			want = l[c.want]
		}
		if x, ok := Get(l, c.name); !equal(x, want) || ok != (c.want >= 0) {
			t.Errorf("Get(%q, %q): %q, %t, not %q", c.names, c.name, x, ok, want)
		}
	}
	if x, ok := Get(nil, ""); !equal(x, Line{}) || ok {
		t.Errorf("%q, %t", x, ok)
	}
	if x, ok := Get([]Line{of("X", "v"), of("", "w")}, ""); !equal(x, of("", "w")) || !ok {
		t.Errorf("%q, %t", x, ok)
	}
}

// P18.5
func TestSet(t *testing.T) {
	for _, c := range []struct{ names, name, want string }{
		{"", "X", "Xv"}, {"", "", "v"}, {"Y", "X", "Y0 Xv"}, {"Y Z", "X", "Y0 Z1 Xv"}, {"x XX", "X", "x0 XX1 Xv"},
		{"X", "X", "Xv"}, {"X Y", "X", "Xv Y1"}, {"Y X", "X", "Y0 Xv"}, {"Y X Z", "X", "Y0 Xv Z2"}, {"Y Z X", "X", "Y0 Z1 Xv"}, {"X Y Z", "X", "Xv Y1 Z2"},
		{"X X", "X", "Xv"}, {"X X X", "X", "Xv"}, {"X Y X", "X", "Xv Y1"}, {"Y X X Z", "X", "Y0 Xv Z3"}, {"Y X Z X", "X", "Y0 Xv Z2"}, {"X Y X Z X", "X", "Xv Y1 Z3"}, {"Y Y X Y", "X", "Y0 Y1 Xv Y3"}, {"X Y Y", "Y", "X0 Yv"},
		{"Y Z X W X V", "X", "Y0 Z1 Xv W3 V5"},
	} {
		l, x := list(c.names), of(c.name, "v", one("Y", "a"))
		if all := Set(l, x); told(all) != c.want || !alike(all, plainSet(l, x)) {
			t.Errorf("Set(%q, %q): %q, not %q", c.names, c.name, all, c.want)
		}
		checkLists(t, l, x)
	}
}

// P18.5
func TestDrop(t *testing.T) {
	for _, c := range []struct{ names, name, want string }{
		{"", "X", ""}, {"", "", ""}, {"Y", "X", "Y0"}, {"Y Z", "X", "Y0 Z1"}, {"x XX", "X", "x0 XX1"},
		{"X", "X", ""}, {"X Y", "X", "Y1"}, {"Y X", "X", "Y0"}, {"Y X Z", "X", "Y0 Z2"}, {"X X X", "X", ""},
		{"X Y X", "X", "Y1"}, {"Y X X Z", "X", "Y0 Z3"}, {"Y X Z X", "X", "Y0 Z2"}, {"X Y X Z X", "X", "Y1 Z3"}, {"Y Y X Y", "X", "Y0 Y1 Y3"},
	} {
		l := list(c.names)
		if all := Drop(l, c.name); told(all) != c.want || !alike(all, plainDrop(l, c.name)) {
			t.Errorf("Drop(%q, %q): %q, not %q", c.names, c.name, all, c.want)
		}
		checkLists(t, l, of(c.name, "v"))
	}
}

// P18.5: lines that may not be are lines as well.
func TestListsOfAnyLines(t *testing.T) {
	wrong := []Line{{}, of("x", "\x00", one("x"), one("x")), of("X", fill(1000), some(9)...), {}, of("\xff", "\xff", one("", ""))}
	for _, x := range append(wrong, of("X", "v"), of("Y", "v")) {
		checkLists(t, wrong, x)
		checkLists(t, nil, x)
		checkLists(t, []Line{}, x)
	}
}

// P18.4, P18.5: all lists of up to six lines of three names.
func TestAllShortLists(t *testing.T) {
	const names = "XYZ"
	for size := range 7 {
		count := 1
		for range size {
			count *= len(names)
		}
		for n := range count {
			var l []string
			for rest := n; len(l) < size; rest /= len(names) {
				l = append(l, names[rest%len(names):][:1])
			}
			for _, name := range []string{"X", "Y", "W"} {
				checkLists(t, list(strings.Join(l, " ")), of(name, "v", one("P", "a", "b")))
			}
		}
	}
}

// P18.4, P18.5, rule 3: an answer has lists of its own, also where those that are handed in share them.
func TestAnswersShareNoLists(t *testing.T) {
	vals := []string{"a", "b", "c"}
	params := []param.Param{{Name: "P", Vals: vals[:2]}, {Name: "Q", Vals: vals[:2]}, {Name: "R", Vals: vals[:3]}}
	l := []Line{of("X", "0", params[:2]...), of("Y", "1", params[:2]...), of("X", "2", params[:2]...), of("Z", "3", params[1:2]...)}
	was := copyOf(l)
	for _, all := range [][]Line{Set(l, l[0]), Set(l, l[2]), Set(l, of("W", "4", params[:2]...)), Set(nil, l[0]), Drop(l, "X"), Drop(l, "W"), Drop(l, "")} {
		want := copyOf(all)
		for i := range all {
			all[i].Params[0].Vals[0] = all[i].Name + all[i].Value
			all[i].Params[0].Vals = append(all[i].Params[0].Vals, "more")
			all[i].Params = append(all[i].Params, one("MORE", "more"))
			want[i].Params[0].Vals[0] = all[i].Name + all[i].Value
			want[i].Params[0].Vals = append(want[i].Params[0].Vals, "more")
			want[i].Params = append(want[i].Params, one("MORE", "more"))
		}
		if !alike(all, want) {
			t.Errorf("%q, not %q", all, want)
		}
		spoil(all)
	}
	x, _ := Get(l, "Y")
	y, _ := Get(l, "Y")
	spoil([]Line{x})
	if !equal(y, was[1]) || !alike(l, was) || !slices.Equal(vals, []string{"a", "b", "c"}) || !equal(of("", "", params...), of("", "", one("P", "a", "b"), one("Q", "a", "b"), one("R", "a", "b", "c"))) {
		t.Errorf("%q, %q, %q, %q", y, l, vals, params)
	}
}

// P18.5: the list is a new one, also where nothing is changed.
func TestSetAndDropMakeNewLists(t *testing.T) {
	l := list("X Y Z")
	was := copyOf(l)
	for _, all := range [][]Line{Set(l, l[1]), Set(l[:2], l[2]), Drop(l, "W"), Drop(l[:0], "X"), Set(l[:0], l[0])} {
		spoil(append(all, Line{}))
	}
	if !alike(l, was) {
		t.Errorf("%q", l)
	}
	all := Set(l, of("Y", "v"))
	l[0].Name, l[0].Params[0].Name, l[0].Params[0].Vals[0] = "N", "N", "n"
	if want := []Line{was[0], of("Y", "v"), was[2]}; !alike(all, want) {
		t.Errorf("%q", all)
	}
}
