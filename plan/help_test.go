package plan_test

import (
	"fmt"
	"slices"
	"strconv"
	"strings"
	"testing"

	"strataweb/api"
	"strataweb/ask"
	"strataweb/plain"
	"strataweb/plan"
	"strataweb/triple"
)

// named makes a Name; said makes a triple; list makes triples of Names, three bytes each.
func named(s string) api.Term { return api.Term{Kind: api.Name, S: s} }

func said(s, p, o api.Term) api.Triple { return api.Triple{S: s, P: p, O: o} }

func list(words ...string) []api.Triple {
	var l []api.Triple
	for _, w := range words {
		l = append(l, said(named(w[:1]), named(w[1:2]), named(w[2:3])))
	}
	return l
}

// span makes triples of one S and P, rising, so many; stars makes them of a, b, c and so on.
func span(s, p string, size int) []api.Triple {
	var l []api.Triple
	for n := range size {
		l = append(l, said(named(s), named(p), named("x"+strconv.Itoa(1000+n))))
	}
	return l
}

func stars(sizes ...int) []api.Triple {
	var l []api.Triple
	for i, n := range sizes {
		l = append(l, span(string(rune('a'+i)), "p", n)...)
	}
	return l
}

// asking makes a query that is told as text.
func asking(t testing.TB, s string) api.Query {
	t.Helper()
	q, at, err := ask.Parse(s)
	if err != nil {
		t.Fatalf("%q: told %v at %d", s, err, at)
	}
	return q
}

// with makes of a query one that has a change.
func with(q api.Query, change func(q *api.Query)) api.Query {
	change(&q)
	return q
}

// faultySet is a list that is no set, and what chapter 2's Sorted tells of it.
type faultySet struct {
	l    []api.Triple
	want api.Errno
}

// noSets are lists of all faults that Sorted tells of.
func noSets() []faultySet {
	a := named("a")
	return []faultySet{
		{list("aaa", "aaa"), api.ErrState},
		{list("aab", "aaa"), api.ErrState},
		{span("a", "a", api.MaxSet+1), api.ErrFull},
		{[]api.Triple{said(a, a, named(strings.Repeat("a", api.MaxText+1)))}, api.ErrFull},
		{[]api.Triple{{}}, api.ErrRange},
		{[]api.Triple{said(a, named("A"), a)}, api.ErrSyntax},
		{[]api.Triple{said(api.Term{Kind: api.Text, S: "a"}, a, a)}, api.ErrShape},
	}
}

// faultyQuery is a query that is none, and what chapter 14's Check tells of it.
type faultyQuery struct {
	q    api.Query
	want api.Errno
}

// noQueries are queries of all faults that Check tells of.
func noQueries(t testing.TB) []faultyQuery {
	t.Helper()
	x := asking(t, "select ?x where ?x p ?y and ?y p ?z")
	slot := func(s api.Slot) api.Query {
		return with(x, func(q *api.Query) { q.Parts = []api.Pattern{x.Parts[0], {S: s, P: s, O: s}} })
	}
	many := asking(t, "select ?x where ?x ?a ?b and ?c ?d ?e and ?f ?g g").Parts
	return []faultyQuery{
		{api.Query{}, api.ErrNone},
		{with(x, func(q *api.Query) { q.Parts = slices.Repeat(x.Parts[:1], api.MaxParts+1) }), api.ErrFull},
		{with(x, func(q *api.Query) { q.Parts = nil }), api.ErrNone},
		{slot(api.Slot{Var: "X"}), api.ErrSyntax},
		{slot(api.Slot{Var: "x", Term: named("a")}), api.ErrShape},
		{slot(api.Slot{}), api.ErrRange},
		{slot(api.Slot{Term: named(strings.Repeat("a", api.MaxText+1))}), api.ErrFull},
		{slot(api.Slot{Term: named("A")}), api.ErrSyntax},
		{with(x, func(q *api.Query) { q.Parts = append(slices.Clone(many), x.Parts...) }), api.ErrFull},
		{with(x, func(q *api.Query) { q.Vars = nil }), api.ErrNone},
		{with(x, func(q *api.Query) { q.Vars = []string{"x", "w"} }), api.ErrNone},
		{with(x, func(q *api.Query) { q.Vars = []string{"x", "x"} }), api.ErrClash},
		{with(x, func(q *api.Query) { q.Order = "y" }), api.ErrNone},
		{with(x, func(q *api.Query) { q.Down = true }), api.ErrShape},
		{with(x, func(q *api.Query) { q.Limit = -2 }), api.ErrRange},
		{with(x, func(q *api.Query) { q.Limit = api.MaxAnswers + 1 }), api.ErrRange},
	}
}

// wantTold fails unless the error is just the one that is wanted, and nil where nothing is wrong.
func wantTold(t *testing.T, what any, err error, want api.Errno) {
	t.Helper()
	if got := plain.Told(err); got != want || (err == nil) != (want == api.OK) {
		t.Errorf("%v: told %v, want %v", what, err, want)
	}
}

// wantOrder fails unless Order tells these places, leaves what it was given alone, and tells the same when its last answer was written into.
func wantOrder(t *testing.T, l []api.Triple, q api.Query, want []int) {
	t.Helper()
	kept, asked := slices.Clone(l), fmt.Sprint(q)
	for range 2 {
		got, err := plan.Order(l, q)
		wantTold(t, asked, err, api.OK)
		if !slices.Equal(got, want) {
			t.Errorf("Order(%v, %v) = %v, want %v", l, asked, got, want)
		}
		clear(got[:cap(got)])
		if !slices.Equal(l, kept) || fmt.Sprint(q) != asked {
			t.Fatalf("Order(%v, %v) wrote into what it was given: %v, %v", kept, asked, l, q)
		}
	}
}

// wantCost fails unless Cost tells so much, and leaves what it was given alone.
func wantCost(t *testing.T, l []api.Triple, q api.Query, want int) {
	t.Helper()
	kept, asked := slices.Clone(l), fmt.Sprint(q)
	got, err := plan.Cost(l, q)
	wantTold(t, asked, err, api.OK)
	if got != want {
		t.Errorf("Cost(%v, %v) = %d, want %d", l, asked, got, want)
	}
	if !slices.Equal(l, kept) || fmt.Sprint(q) != asked {
		t.Fatalf("Cost(%v, %v) wrote into what it was given: %v, %v", kept, asked, l, q)
	}
}

// wantNoOrder and wantNoCost fail unless just this error is told.
func wantNoOrder(t *testing.T, l []api.Triple, q api.Query, want api.Errno) {
	t.Helper()
	got, err := plan.Order(l, q)
	wantTold(t, q, err, want)
	if len(got) != 0 {
		t.Errorf("Order(%v) = %v, want none", q, got)
	}
}

func wantNoCost(t *testing.T, l []api.Triple, q api.Query, want api.Errno) {
	t.Helper()
	got, err := plan.Cost(l, q)
	wantTold(t, q, err, want)
	if got != 0 {
		t.Errorf("Cost(%v) = %d, want 0", q, got)
	}
}

// wantSet fails at once unless a list of a test is a set.
func wantSet(t *testing.T, l []api.Triple) {
	t.Helper()
	if err := triple.Sorted(l); err != nil {
		t.Fatalf("%v is no set: %v", l, err)
	}
}

// orders calls with each order of so many places.
func orders(size int, call func(order []int)) {
	var order []int
	var next func()
	next = func() {
		if len(order) == size {
			call(slices.Clone(order))
			return
		}
		for at := range size {
			if !slices.Contains(order, at) {
				order = append(order, at)
				next()
				order = order[:len(order)-1]
			}
		}
	}
	next()
}

// someQueries are queries of up to four small parts, all ways to choose some of these.
func someQueries(t testing.TB) []api.Query {
	t.Helper()
	parts := []string{"?x a ?y", "?y ?x ?z", "?z ?z ?y", "a ?x a", "?x ?y ?x", "b b b", "?w a b"}
	var out []api.Query
	for _, one := range parts {
		for _, two := range parts {
			out = append(out, asking(t, "select ?x where "+one+" and ?x ?v ?y and "+two))
			for _, three := range parts[:4] {
				out = append(out, asking(t, "select ?y where "+one+" and "+two+" and ?y b ?u and "+three+" limit 1"))
			}
		}
	}
	return out
}

// someSets are all sets of some of a few triples.
func someSets(t *testing.T) [][]api.Triple {
	t.Helper()
	all := list("aaa", "aab", "aba", "baa", "bbb")
	wantSet(t, all)
	var out [][]api.Triple
	for bits := range 1 << len(all) {
		var l []api.Triple
		for i, x := range all {
			if bits>>i&1 == 1 {
				l = append(l, x)
			}
		}
		out = append(out, l)
	}
	return out
}
