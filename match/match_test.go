package match_test

import (
	"slices"
	"testing"

	"strataweb/api"
	"strataweb/match"
	"strataweb/triple"
)

// wantMatch fails unless Match answers these and Count how many they are, both leave the set alone, and the answer has memory of its own.
func wantMatch(t *testing.T, l []api.Triple, p api.Pattern, want []api.Triple) {
	t.Helper()
	kept := slices.Clone(l)
	got, err := match.Match(l, p)
	wantTold(t, p, err, api.OK)
	if !slices.Equal(got, want) {
		t.Errorf("Match(%v, %v) = %v, want %v", l, p, got, want)
	}
	n, err := match.Count(l, p)
	wantTold(t, p, err, api.OK)
	if n != len(want) {
		t.Errorf("Count(%v, %v) = %d, want %d", l, p, n, len(want))
	}
	for i := range got {
		got[i] = api.Triple{}
	}
	if !slices.Equal(l, kept) {
		t.Errorf("%v: written into: %v", kept, l)
	}
}

// wantNoMatch fails unless Match and Count tell this error, and nothing else.
func wantNoMatch(t *testing.T, l []api.Triple, p api.Pattern, want api.Errno) {
	t.Helper()
	got, err := match.Match(l, p)
	wantTold(t, p, err, want)
	if len(got) != 0 {
		t.Errorf("Match(%v, %v) = %v, want none", l, p, got)
	}
	n, err := match.Count(l, p)
	wantTold(t, p, err, want)
	if n != 0 {
		t.Errorf("Count(%v, %v) = %d, want 0", l, p, n)
	}
}

func TestMatch(t *testing.T) {
	x, y, z, a, b := free("x"), free("y"), free("z"), just(named("a")), just(named("b"))
	l := list("aaa", "aab", "aba", "abb", "baa", "bab", "bba", "bbb", "cab")
	for _, c := range []struct {
		p    api.Pattern
		want []api.Triple
	}{
		{shape(x, y, z), l},
		{shape(a, y, z), list("aaa", "aab", "aba", "abb")},
		{shape(x, b, z), list("aba", "abb", "bba", "bbb")},
		{shape(x, y, b), list("aab", "abb", "bab", "bbb", "cab")},
		{shape(a, b, z), list("aba", "abb")},
		{shape(b, y, a), list("baa", "bba")},
		{shape(x, a, b), list("aab", "bab", "cab")},
		{shape(a, b, a), list("aba")},
		{shape(just(named("c")), b, b), nil},
		{shape(x, x, z), list("aaa", "aab", "bba", "bbb")},
		{shape(x, y, x), list("aaa", "aba", "bab", "bbb")},
		{shape(x, y, y), list("aaa", "abb", "baa", "bbb")},
		{shape(x, x, x), list("aaa", "bbb")},
		{shape(x, x, a), list("aaa", "bba")},
		{shape(b, x, x), list("baa", "bbb")},
		{shape(x, b, x), list("aba", "bbb")},
	} {
		wantMatch(t, l, c.p, c.want)
		wantMatch(t, nil, c.p, nil)
		wantMatch(t, []api.Triple{}, c.p, nil)
	}
}

// answered tells whether the variables can have terms with which the pattern is the triple: all that they can have is tried.
func answered(x api.Triple, p api.Pattern) bool {
	vars := []string{"x", "y", "zabcdefghi"}
	for _, one := range terms() {
		for _, two := range terms() {
			for _, three := range terms() {
				fill := func(s api.Slot) api.Term {
					if i := slices.Index(vars, s.Var); i >= 0 {
						return []api.Term{one, two, three}[i]
					}
					return s.Term
				}
				if x == said(fill(p.S), fill(p.P), fill(p.O)) {
					return true
				}
			}
		}
	}
	return false
}

func TestAllPatterns(t *testing.T) {
	all := universe()
	wantTold(t, all, triple.Sorted(all), api.OK)
	for _, p := range patterns() {
		var want []api.Triple
		for _, x := range all {
			if answered(x, p) {
				want = append(want, x)
				wantMatch(t, []api.Triple{x}, p, []api.Triple{x})
			} else {
				wantMatch(t, []api.Triple{x}, p, nil)
			}
		}
		wantMatch(t, all, p, want)
	}
}

// What a variable has in one triple does not matter to the next one.
func TestMatchEachAnew(t *testing.T) {
	x, y := free("x"), free("y")
	wantMatch(t, list("aba", "bcb", "cdc", "dea"), shape(x, y, x), list("aba", "bcb", "cdc"))
	wantMatch(t, list("abc", "bcb"), shape(x, y, x), list("bcb"))
	// A variable whose name is a term's text is not that term.
	wantMatch(t, list("aba", "bcb"), shape(free("a"), y, free("a")), list("aba", "bcb"))
	wantMatch(t, list("abb", "bbc"), shape(just(named("a")), free("a"), free("b")), list("abb"))
}

func TestMatchMost(t *testing.T) {
	l := span(0, api.MaxSet)
	wantMatch(t, l, shape(free("x"), free("y"), free("z")), l)
	wantMatch(t, l, shape(just(named("a")), just(named("p")), free("z")), l)
	wantMatch(t, l, shape(free("x"), free("y"), free("x")), nil)
	for _, x := range l {
		wantMatch(t, l, shape(free("x"), free("y"), just(x.O)), []api.Triple{x})
	}
}

func TestMatchNoSet(t *testing.T) {
	x := free("x")
	for _, bad := range noSets() {
		for _, p := range []api.Pattern{shape(x, x, x), shape(just(named("a")), x, free("y"))} {
			wantNoMatch(t, bad.l, p, bad.want)
		}
		// What is wrong with the list is told ahead of what is wrong with the pattern.
		for _, s := range noSlots() {
			wantNoMatch(t, bad.l, shape(x, x, s.s), bad.want)
		}
		wantNoMatch(t, bad.l, api.Pattern{}, bad.want)
	}
}

// The pattern is looked at also where no triple is, and where an earlier slot fits none.
func TestMatchNoPattern(t *testing.T) {
	x, a := free("x"), just(named("nowhere"))
	for _, bad := range noSlots() {
		for at := range 3 {
			for _, l := range [][]api.Triple{nil, list("aaa", "bbb"), span(0, api.MaxSet)} {
				wantNoMatch(t, l, placed(at, bad.s, [3]api.Slot{x, x, x}), bad.want)
				wantNoMatch(t, l, placed(at, bad.s, [3]api.Slot{a, a, a}), bad.want)
			}
		}
	}
	for _, one := range noSlots() {
		for _, two := range noSlots() {
			wantNoMatch(t, list("aaa"), shape(x, one.s, two.s), one.want)
		}
	}
}

// What lies behind a list's length is neither read nor written, and no answer reaches into it.
func TestNothingBehindTheLength(t *testing.T) {
	for n := range 3 {
		l := list("aaa", "ccc", "aaa", "zzz")
		kept := slices.Clone(l)
		got, err := match.Match(l[:n], shape(free("x"), free("y"), free("z")))
		wantTold(t, n, err, api.OK)
		if !slices.Equal(got, kept[:n]) {
			t.Errorf("Match of %v = %v", l[:n], got)
		}
		_ = append(got, list("eee", "fff", "ggg", "hhh")...)
		if !slices.Equal(l, kept) {
			t.Errorf("Match of the first %d: written into: %v", n, l)
		}
	}
}

// FuzzMatch holds Match of any slots against what Vars tells of them, and against what each slot asks.
func FuzzMatch(f *testing.F) {
	f.Add("x", "y", "", 0, 1, 2)
	f.Add("", "x", "x", 0, 0, 0)
	f.Add("elevenlette", "", "A", 1, -1, 9)
	f.Fuzz(func(t *testing.T, s, p, o string, i, j, k int) {
		slot := func(name string, n int) api.Slot {
			all := append(terms(), api.Term{}, named("A"))
			if name != "" || n < 0 {
				return free(name)
			}
			return just(all[n%len(all)])
		}
		q := shape(slot(s, i), slot(p, j), slot(o, k))
		vars, err := match.Vars(q)
		if err != nil {
			errno, _ := err.(api.Errno)
			wantNoMatch(t, universe(), q, errno)
			return
		}
		var want []api.Triple
		for _, x := range universe() {
			if fitsByHand(x, q, vars) {
				want = append(want, x)
			}
		}
		wantMatch(t, universe(), q, want)
	})
}

// fitsByHand looks at one variable after the other: all of its slots have one term.
func fitsByHand(x api.Triple, p api.Pattern, vars []string) bool {
	has, asks := []api.Term{x.S, x.P, x.O}, []api.Slot{p.S, p.P, p.O}
	for i := range asks {
		if asks[i].Var == "" && asks[i].Term != has[i] {
			return false
		}
	}
	for _, name := range vars {
		var own []api.Term
		for i := range asks {
			if asks[i].Var == name {
				own = append(own, has[i])
			}
		}
		if len(slices.Compact(own)) != 1 {
			return false
		}
	}
	return true
}
