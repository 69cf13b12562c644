package line

import (
	"slices"
	"testing"

	"errand/param"
)

// holds tells that two lists are the same, or not, either way round.
func holds(t *testing.T, a, b []Line, want bool) {
	t.Helper()
	wasA, wasB := copyOf(a), copyOf(b)
	if Same(a, b) != want || Same(b, a) != want {
		t.Errorf("Same(%q, %q): %t, %t", a, b, Same(a, b), Same(b, a))
	}
	if !Same(a, a) || !Same(b, copyOf(b)) {
		t.Errorf("%q or %q is not the same as itself", a, b)
	}
	if !alike(a, wasA) || !alike(b, wasB) {
		t.Errorf("%q and %q are %q and %q", wasA, wasB, a, b)
	}
}

// P18.6
func TestSame(t *testing.T) {
	x := of("X", "v", one("P", "a", "b"), one("Q", "c"))
	y, z := of("Y", "v"), of("X", "")
	holds(t, nil, nil, true)
	holds(t, nil, []Line{}, true)
	holds(t, []Line{{}}, []Line{{}}, true)
	holds(t, []Line{x}, copyOf([]Line{x}), true)
	holds(t, []Line{x, y, z}, copyOf([]Line{x, y, z}), true)
	holds(t, []Line{x, x}, []Line{x, x}, true)
}

// P18.6: lists of other lengths.
func TestSameLengths(t *testing.T) {
	x, y := of("X", "v"), of("Y", "w")
	holds(t, nil, []Line{{}}, false)
	holds(t, nil, []Line{x}, false)
	holds(t, []Line{x}, []Line{x, x}, false)
	holds(t, []Line{x, y}, []Line{x}, false)
	holds(t, []Line{x, y}, []Line{y}, false)
	holds(t, []Line{x, y}, []Line{x, y, {}}, false)
}

// P18.6: other names, parameters, values and orders, at each place of the list.
func TestSameDiffers(t *testing.T) {
	x := of("X", "v", one("P", "a", "b"), one("Q", "c"))
	for _, y := range []Line{
		{}, of("X", "v"), of("Y", "v", x.Params...), of("x", "v", x.Params...), of("", "v", x.Params...), of("XX", "v", x.Params...),
		of("X", "w", x.Params...), of("X", "V", x.Params...), of("X", "", x.Params...), of("X", "v ", x.Params...), of("v", "X", x.Params...),
		of("X", "v", x.Params[0]), of("X", "v", x.Params[1]), of("X", "v", x.Params[1], x.Params[0]), of("X", "v", append(slices.Clone(x.Params), one("R", "d"))...), of("X", "v", x.Params[0], x.Params[0]),
		of("X", "v", one("R", "a", "b"), one("Q", "c")), of("X", "v", one("P", "a", "b"), one("q", "c")), of("X", "v", one("P", "a", "x"), one("Q", "c")), of("X", "v", one("P", "a", "b"), one("Q", "C")),
		of("X", "v", one("P", "b", "a"), one("Q", "c")), of("X", "v", one("P", "a"), one("Q", "c")), of("X", "v", one("P", "a", "b", ""), one("Q", "c")), of("X", "v", one("P", "a,b"), one("Q", "c")), of("X", "v", one("P", "a", "b"), one("Q")),
	} {
		holds(t, []Line{x}, []Line{y}, false)
		for i := range 4 {
			a, b := slices.Repeat([]Line{x}, 4), slices.Repeat([]Line{x}, 4)
			b[i] = y
			holds(t, a, b, false)
			a[i] = y
			holds(t, a, b, true)
		}
		holds(t, []Line{x, y}, []Line{y, x}, false)
	}
}

// P18.6: what is none is the same everywhere.
func TestSameWithoutParams(t *testing.T) {
	a, b := of("X", "v"), of("X", "v")
	a.Params, b.Params = nil, []param.Param{}
	holds(t, []Line{a}, []Line{b}, true)
	a.Params, b.Params = append([]param.Param{}, one("P")), append([]param.Param{}, one("P", []string{}...))
	holds(t, []Line{a}, []Line{b}, true)
}
