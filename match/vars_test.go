package match_test

import (
	"slices"
	"strings"
	"testing"

	"strataweb/api"
	"strataweb/match"
)

// wantVars fails unless Vars answers these, also when its last answer was written into.
func wantVars(t *testing.T, p api.Pattern, want ...string) {
	t.Helper()
	for range 2 {
		got, err := match.Vars(p)
		wantTold(t, p, err, api.OK)
		if !slices.Equal(got, want) {
			t.Errorf("Vars(%v) = %q, want %q", p, got, want)
		}
		for i := range got {
			got[i] = ""
		}
	}
}

// wantNoVars fails unless Vars tells this error, and nothing else.
func wantNoVars(t *testing.T, p api.Pattern, want api.Errno) {
	t.Helper()
	got, err := match.Vars(p)
	wantTold(t, p, err, want)
	if len(got) != 0 {
		t.Errorf("Vars(%v) = %q, want none", p, got)
	}
}

func TestVars(t *testing.T) {
	x, y, z, a := free("x"), free("y"), free("z"), just(named("a"))
	wantVars(t, shape(a, a, a))
	wantVars(t, shape(x, a, a), "x")
	wantVars(t, shape(a, x, a), "x")
	wantVars(t, shape(a, a, x), "x")
	wantVars(t, shape(x, y, a), "x", "y")
	wantVars(t, shape(y, a, x), "y", "x")
	wantVars(t, shape(a, z, x), "z", "x")
	wantVars(t, shape(x, y, z), "x", "y", "z")
	wantVars(t, shape(z, y, x), "z", "y", "x")
	wantVars(t, shape(y, z, x), "y", "z", "x")
	wantVars(t, shape(x, x, a), "x")
	wantVars(t, shape(x, a, x), "x")
	wantVars(t, shape(a, x, x), "x")
	wantVars(t, shape(y, x, x), "y", "x")
	wantVars(t, shape(y, x, y), "y", "x")
	wantVars(t, shape(y, y, x), "y", "x")
	wantVars(t, shape(x, x, x), "x")
	// One is not another one that it begins, or whose text is that of a term.
	wantVars(t, shape(free("a"), free("aa"), a), "a", "aa")
}

func TestVarsAreSpelled(t *testing.T) {
	y := free("y")
	others := [3]api.Slot{y, y, y}
	for at := range 3 {
		for n := 1; n <= api.MaxName; n++ {
			name := strings.Repeat("a", n-1) + "z"
			wantVars(t, placed(at, free(name), [3]api.Slot{free(name), free(name), free(name)}), name)
		}
		for b := range 256 {
			for _, name := range []string{string([]byte{byte(b)}), string([]byte{byte(b), 'a'}), string([]byte{'a', byte(b)}), "abcdefghi" + string([]byte{byte(b)})} {
				p := placed(at, free(name), others)
				if 'a' <= b && b <= 'z' {
					got, err := match.Vars(p)
					wantTold(t, p, err, api.OK)
					if !slices.Contains(got, name) {
						t.Errorf("Vars(%v) = %q, want %q among them", p, got, name)
					}
				} else {
					wantNoVars(t, p, api.ErrSyntax)
				}
			}
		}
	}
}

// A pattern may have any term anywhere, though no triple may.
func TestVarsOfAnyTerm(t *testing.T) {
	for _, x := range append(terms(), text("", ""), named(strings.Repeat("a", api.MaxText))) {
		for at := range 3 {
			wantVars(t, placed(at, just(x), [3]api.Slot{free("y"), free("y"), free("y")}), "y")
		}
		wantVars(t, shape(just(x), just(x), just(x)))
	}
}

func TestVarsWrong(t *testing.T) {
	x, a := free("x"), just(named("a"))
	for _, bad := range noSlots() {
		for at := range 3 {
			wantNoVars(t, placed(at, bad.s, [3]api.Slot{x, x, x}), bad.want)
			wantNoVars(t, placed(at, bad.s, [3]api.Slot{a, a, a}), bad.want)
		}
	}
	wantNoVars(t, api.Pattern{}, api.ErrRange)
}

// Of several slots that have a fault the first one's is told, whichever they are.
func TestVarsFirstFault(t *testing.T) {
	x := free("x")
	for _, one := range noSlots() {
		for _, two := range noSlots() {
			wantNoVars(t, shape(one.s, two.s, x), one.want)
			wantNoVars(t, shape(one.s, x, two.s), one.want)
			wantNoVars(t, shape(x, one.s, two.s), one.want)
			wantNoVars(t, shape(one.s, two.s, two.s), one.want)
		}
	}
}

// IsVar says of each text what Vars says of a slot that has it, but that an empty one is none.
func TestIsVar(t *testing.T) {
	for _, name := range []string{"a", "z", "abcdefghij", "zzzzzzzzzz"} {
		if !match.IsVar(name) {
			t.Errorf("IsVar(%q) = false", name)
		}
	}
	if match.IsVar("") {
		t.Error("an empty text is told to be a variable")
	}
	for _, bad := range wrongVars() {
		if match.IsVar(bad.s.Var) {
			t.Errorf("IsVar(%q) = true", bad.s.Var)
		}
	}
}
