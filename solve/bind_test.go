package solve_test

import (
	"slices"
	"strings"
	"testing"

	"strataweb/api"
	"strataweb/match"
	"strataweb/set"
	"strataweb/solve"
)

// wantBound fails unless Bind makes this pattern, and leaves the lists alone.
func wantBound(t *testing.T, p api.Pattern, names []string, vals []api.Term, want api.Pattern) {
	t.Helper()
	keptNames, keptVals := slices.Clone(names), slices.Clone(vals)
	got, err := solve.Bind(p, names, vals)
	wantTold(t, p, err, api.OK)
	if got != want {
		t.Errorf("Bind(%v, %q, %v) = %v, want %v", p, names, vals, got, want)
	}
	if !slices.Equal(names, keptNames) || !slices.Equal(vals, keptVals) {
		t.Errorf("Bind has left %q, %v", names, vals)
	}
}

// wantUnbound fails unless Bind tells this error, and nothing else.
func wantUnbound(t *testing.T, p api.Pattern, names []string, vals []api.Term, want api.Errno) {
	t.Helper()
	got, err := solve.Bind(p, names, vals)
	wantTold(t, p, err, want)
	if got != (api.Pattern{}) {
		t.Errorf("Bind(%v, %d, %d) = %v, want none", p, len(names), len(vals), got)
	}
}

func TestBind(t *testing.T) {
	for _, c := range []struct{ p, vars, vals, want string }{
		{"?x ?y ?z", "", "", "?x ?y ?z"},
		{"?x ?y ?z", "x", "a", "a ?y ?z"},
		{"?x ?y ?z", "y", "a", "?x a ?z"},
		{"?x ?y ?z", "z", "a", "?x ?y a"},
		{"?x ?y ?z", "zx", "ab", "b ?y a"},
		{"?x ?y ?z", "yzx", "abc", "c a b"},
		{"?x ?y ?z", "xyz", "aaa", "a a a"},
		{"?x ?y ?z", "wv", "ab", "?x ?y ?z"},
		{"?x ?y ?z", "wyv", "abc", "?x b ?z"},
		{"?x ?x ?y", "x", "a", "a a ?y"},
		{"?x ?y ?x", "x", "a", "a ?y a"},
		{"?x ?x ?x", "x", "a", "a a a"},
		{"?x ?x ?x", "y", "a", "?x ?x ?x"},
		// Of one that is told twice the first counts.
		{"?x ?y ?z", "xx", "ab", "a ?y ?z"},
		{"?x ?y ?z", "xyxyx", "abcde", "a b ?z"},
		{"?x ?x ?y", "yxxy", "abcd", "b b a"},
		// A term is no variable, though its text is one's; nor is what a variable has.
		{"x ?y z", "xyz", "abc", "x b z"},
		{"x y z", "xyz", "abc", "x y z"},
		{"?x ?y ?z", "xyz", "yzx", "y z x"},
		{"?x ?y ?z", "xy", "yx", "y x ?z"},
		// One is not another one that it begins.
		{"?xx ?x ?xxx", "x", "a", "?xx a ?xxx"},
	} {
		wantBound(t, part(c.p), vars(c.vars), names(c.vals), part(c.want))
	}
	long := strings.Repeat("v", api.MaxName)
	wantBound(t, shape(free(long), free("y"), free(long[1:])), []string{long}, names("a"), shape(just(named("a")), free("y"), free(long[1:])))
}

// Any term may come anywhere, though in no triple.
func TestBindAnyTerm(t *testing.T) {
	full := strings.Repeat("a", api.MaxText)
	for _, x := range []api.Term{named("a"), named(full), anon("1"), anon(full), text("", ""), text("", "en"), text(full, "de"), text(`" \`, "")} {
		for at := range 3 {
			wantBound(t, placed(at, free("x"), [3]api.Slot{free("y"), free("y"), free("y")}), vars("x"), []api.Term{x}, placed(at, just(x), [3]api.Slot{free("y"), free("y"), free("y")}))
			wantBound(t, placed(at, just(x), [3]api.Slot{free("y"), free("y"), free("y")}), vars("x"), names("a"), placed(at, just(x), [3]api.Slot{free("y"), free("y"), free("y")}))
		}
		wantBound(t, part("?x ?x ?x"), vars("x"), []api.Term{x}, shape(just(x), just(x), just(x)))
	}
}

// What is told of a name that is no variable is in no slot: above all not that of an empty one, which slots with a term have.
func TestBindNamesThatAreNone(t *testing.T) {
	odd := []string{"", "X", "?x", "x ", "elevenlette", strings.Repeat("x", 1000), "\x00", "1"}
	for _, name := range odd {
		wantBound(t, part("?x a ?y"), []string{name}, names("b"), part("?x a ?y"))
		wantBound(t, part("a a a"), []string{name}, names("b"), part("a a a"))
		wantBound(t, part("?x a ?y"), []string{name, "x", name}, names("bcd"), part("c a ?y"))
		// That it is told does not make it one.
		if name != "" {
			wantUnbound(t, shape(free(name), free("x"), free("x")), []string{name, "x"}, names("ab"), api.ErrSyntax)
		} else {
			wantUnbound(t, shape(free(name), free("x"), free("x")), []string{name, "x"}, names("ab"), api.ErrRange)
		}
	}
}

func TestBindNotAsMany(t *testing.T) {
	for n := range 5 {
		for m := range 5 {
			told, vals := vars("xyzwv")[:n], names("abcde")[:m]
			if n == m {
				_, err := solve.Bind(part("?x ?y ?z"), told, vals)
				wantTold(t, n, err, api.OK)
				continue
			}
			wantUnbound(t, part("?x ?y ?z"), told, vals, api.ErrShape)
			wantUnbound(t, part("a b c"), told, vals, api.ErrShape)
			// That weighs more than what they are.
			wantUnbound(t, api.Pattern{}, told, make([]api.Term, m), api.ErrShape)
			wantUnbound(t, shape(free("X"), free("x"), free("x")), told, vals, api.ErrShape)
		}
	}
	wantUnbound(t, part("?x ?y ?z"), nil, names("a"), api.ErrShape)
	wantUnbound(t, part("?x ?y ?z"), vars("x"), nil, api.ErrShape)
}

// Each term is looked at, also one that no slot comes to have; of several the first that has a fault is told, and ahead of the pattern's.
func TestBindNoTerms(t *testing.T) {
	x := part("?x ?y a")
	for _, bad := range noTerms() {
		wantUnbound(t, x, vars("x"), []api.Term{bad.x}, bad.want)
		wantUnbound(t, x, vars("w"), []api.Term{bad.x}, bad.want)
		wantUnbound(t, x, []string{""}, []api.Term{bad.x}, bad.want)
		wantUnbound(t, part("a a a"), vars("x"), []api.Term{bad.x}, bad.want)
		wantUnbound(t, x, vars("xx"), []api.Term{named("a"), bad.x}, bad.want)
		wantUnbound(t, x, vars("xyzw"), []api.Term{named("a"), named("b"), named("c"), bad.x}, bad.want)
		for _, other := range noTerms() {
			wantUnbound(t, x, vars("xyz"), []api.Term{named("a"), bad.x, other.x}, bad.want)
			wantUnbound(t, x, vars("zyx"), []api.Term{bad.x, named("a"), other.x}, bad.want)
		}
		for _, none := range noSlots() {
			wantUnbound(t, shape(none.s, free("x"), free("x")), vars("x"), []api.Term{bad.x}, bad.want)
		}
	}
}

// A pattern's fault is told whatever its variables would have.
func TestBindNoPattern(t *testing.T) {
	x := free("x")
	for _, bad := range noSlots() {
		for at := range 3 {
			p := placed(at, bad.s, [3]api.Slot{x, x, x})
			wantUnbound(t, p, nil, nil, bad.want)
			wantUnbound(t, p, vars("xy"), names("ab"), bad.want)
			wantUnbound(t, p, []string{bad.s.Var}, names("a"), bad.want)
		}
		for _, other := range noSlots() {
			wantUnbound(t, shape(bad.s, other.s, x), vars("x"), names("a"), bad.want)
			wantUnbound(t, shape(x, bad.s, other.s), vars("x"), names("a"), bad.want)
		}
	}
	wantUnbound(t, api.Pattern{}, nil, nil, api.ErrRange)
}

// What lies behind a list's length is neither read nor written.
func TestBindNothingBehindTheLength(t *testing.T) {
	told, vals := vars("xyz"), append(names("ab"), api.Term{})
	wantBound(t, part("?x ?y ?z"), told[:2], vals[:2], part("a b ?z"))
	wantUnbound(t, part("?x ?y ?z"), told[:2], vals[:1], api.ErrShape)
	if !slices.Equal(told, vars("xyz")) || !slices.Equal(vals, append(names("ab"), api.Term{})) {
		t.Errorf("Bind has left %q, %v", told, vals)
	}
}

func TestBindMany(t *testing.T) {
	const many = 200_000
	told := append(slices.Repeat(vars("wvy"), many), "x")
	vals := append(slices.Repeat(names("abc"), many), named("d"))
	wantBound(t, part("?x ?y ?z"), told, vals, part("d c ?z"))
	wantUnbound(t, part("?x ?y ?z"), told[1:], vals, api.ErrShape)
	vals[len(vals)-1] = api.Term{}
	wantUnbound(t, part("?x ?y ?z"), told, vals, api.ErrRange)
}

// Each part, bound by an answer, is a triple of the set; and bound by other terms none, if these are no answer.
func TestBindByAnswers(t *testing.T) {
	l := list("alb", "alc", "blc", "bld", "cla", "dld", "lla")
	q := asking(t, "select ?x ?p ?y ?z where ?x ?p ?y and ?y ?p ?z and ?z l ?x")
	answers, err := solve.Solve(l, q)
	wantTold(t, q, err, api.OK)
	if len(answers) == 0 {
		t.Errorf("%v has no answer", q)
	}
	terms, err := set.Terms(l)
	wantTold(t, l, err, api.OK)
	for _, x := range terms {
		for _, y := range terms {
			for _, z := range terms {
				row := []api.Term{x, named("l"), y, z}
				is := !slices.ContainsFunc(q.Parts, func(p api.Pattern) bool {
					bound, err := solve.Bind(p, q.Vars, row)
					wantTold(t, p, err, api.OK)
					n, err := match.Count(l, bound)
					wantTold(t, bound, err, api.OK)
					return n != 1
				})
				want := slices.ContainsFunc(answers, func(a []api.Term) bool { return slices.Equal(a, row) })
				if is != want {
					t.Errorf("%v answers: %v, want %v", row, is, want)
				}
			}
		}
	}
}

func FuzzBind(f *testing.F) {
	f.Add("x", "y", "", "x", "y", "x", "a", "b", api.Name, api.Text)
	f.Add("", "", "", "", "", "", "", "", 0, 1)
	f.Add("x", "X", "x", "X", "x", "x", "A", "", 2, 3)
	f.Fuzz(func(t *testing.T, s, p, o, one, two, three, a, b string, first, second int) {
		slots := [3]api.Slot{}
		for i, name := range []string{s, p, o} {
			slots[i] = free(name)
			if name == "" {
				slots[i] = just(named("a"))
			}
		}
		pattern := shape(slots[0], slots[1], slots[2])
		told := []string{one, two, three}
		vals := []api.Term{{Kind: first, S: a}, {Kind: second, S: b}, {Kind: first, S: b}}
		got, err := solve.Bind(pattern, told, vals)
		if err != nil {
			if got != (api.Pattern{}) {
				t.Errorf("Bind(%v) = %v, and %v", pattern, got, err)
			}
			return
		}
		for i, slot := range []api.Slot{got.S, got.P, got.O} {
			want := slots[i]
			if at := slices.Index(told, want.Var); want.Var != "" && at >= 0 {
				want = just(vals[at])
			}
			if slot != want {
				t.Errorf("Bind(%v, %q, %v) = %v", pattern, told, vals, got)
			}
		}
		if _, err := match.Vars(got); err != nil {
			t.Errorf("Bind(%v, %q, %v) = %v, of which %v is told", pattern, told, vals, got, err)
		}
	})
}
