package solve_test

import (
	"fmt"
	"slices"
	"strconv"
	"strings"
	"testing"

	"strataweb/api"
	"strataweb/ask"
	"strataweb/plain"
	"strataweb/solve"
	"strataweb/triple"
)

// named, anon and text make terms; said makes a triple of them.
func named(s string) api.Term { return api.Term{Kind: api.Name, S: s} }

func anon(s string) api.Term { return api.Term{Kind: api.Anon, S: s} }

func text(s, lang string) api.Term { return api.Term{Kind: api.Text, S: s, Lang: lang} }

func said(s, p, o api.Term) api.Triple { return api.Triple{S: s, P: p, O: o} }

// free makes a slot of a variable, just one of a term; shape makes a pattern of slots.
func free(name string) api.Slot { return api.Slot{Var: name} }

func just(x api.Term) api.Slot { return api.Slot{Term: x} }

func shape(s, p, o api.Slot) api.Pattern { return api.Pattern{S: s, P: p, O: o} }

// placed makes a pattern that has a slot at a place, and others of it elsewhere.
func placed(at int, s api.Slot, others [3]api.Slot) api.Pattern {
	others[at] = s
	return shape(others[0], others[1], others[2])
}

// part makes a pattern of three words: a variable behind `?`, else a Name.
func part(words string) api.Pattern {
	var slots [3]api.Slot
	for i, word := range strings.Fields(words) {
		slots[i] = just(named(word))
		if name, ok := strings.CutPrefix(word, "?"); ok {
			slots[i] = free(name)
		}
	}
	return shape(slots[0], slots[1], slots[2])
}

// names makes terms of Names, a byte each.
func names(letters string) []api.Term {
	var out []api.Term
	for _, s := range vars(letters) {
		out = append(out, named(s))
	}
	return out
}

// vars makes a list of variables, a byte each.
func vars(letters string) []string {
	if letters == "" {
		return nil
	}
	return strings.Split(letters, "")
}

// rows makes answers of Names, a byte each.
func rows(words ...string) [][]api.Term {
	var out [][]api.Term
	for _, w := range words {
		out = append(out, names(w))
	}
	return out
}

// list makes triples of Names, three bytes each.
func list(words ...string) []api.Triple {
	var l []api.Triple
	for _, w := range words {
		l = append(l, said(named(w[:1]), named(w[1:2]), named(w[2:3])))
	}
	return l
}

// span makes triples of one S and P, rising, so many.
func span(s, p string, size int) []api.Triple {
	var l []api.Triple
	for n := range size {
		l = append(l, said(named(s), named(p), named("x"+strconv.Itoa(1000+n))))
	}
	return l
}

// asking makes a query that is told as text.
func asking(t testing.TB, s string) api.Query {
	t.Helper()
	q, at, err := ask.Parse(s)
	if err != nil {
		t.Fatalf("%q: told %v at %d", s, err, at)
	}
	return q
}

// limited and distinct make of a query one that has that, too.
func limited(q api.Query, n int) api.Query {
	q.Limit = n
	return q
}

func distinct(q api.Query) api.Query {
	q.Distinct = true
	return q
}

// faultySet is a list that is no set, and what chapter 2's Sorted tells of it.
type faultySet struct {
	l    []api.Triple
	want api.Errno
}

// noSets are lists of all faults that Sorted tells of.
func noSets() []faultySet {
	a := named("a")
	return []faultySet{
		{list("aaa", "aaa"), api.ErrState},
		{list("aab", "aaa"), api.ErrState},
		{span("a", "a", api.MaxSet+1), api.ErrFull},
		{make([]api.Triple, api.MaxSet+1), api.ErrFull},
		{[]api.Triple{said(a, a, text(strings.Repeat("a", api.MaxText+1), ""))}, api.ErrFull},
		{[]api.Triple{{}}, api.ErrRange},
		{append(list("aaa"), said(a, a, api.Term{Kind: 4, S: "a"})), api.ErrRange},
		{[]api.Triple{said(a, named("A"), a)}, api.ErrSyntax},
		{[]api.Triple{said(text("a", ""), a, a)}, api.ErrShape},
		{append(list("aaa"), said(a, anon("a"), a)), api.ErrShape},
	}
}

// faultySlot is a slot that is none, and what chapter 5's Vars tells of it.
type faultySlot struct {
	s    api.Slot
	want api.Errno
}

// noSlots are slots of all faults.
func noSlots() []faultySlot {
	long := strings.Repeat("a", api.MaxText+1)
	return []faultySlot{
		{free("X"), api.ErrSyntax},
		{free("?x"), api.ErrSyntax},
		{free("x "), api.ErrSyntax},
		{free("elevenlette"), api.ErrSyntax},
		{api.Slot{Var: "x1", Term: named("a")}, api.ErrSyntax},
		{api.Slot{Var: "x", Term: named("a")}, api.ErrShape},
		{api.Slot{Var: "y", Term: api.Term{Kind: 4}}, api.ErrShape},
		{api.Slot{}, api.ErrRange},
		{just(api.Term{Kind: 4, S: "a"}), api.ErrRange},
		{just(named(long)), api.ErrFull},
		{just(named("1")), api.ErrSyntax},
		{just(text("a", "e")), api.ErrSyntax},
	}
}

// faultyTerm is a term that is none, and what chapter 1's Check tells of it.
type faultyTerm struct {
	x    api.Term
	want api.Errno
}

// noTerms are terms of all faults.
func noTerms() []faultyTerm {
	long := strings.Repeat("a", api.MaxText+1)
	return []faultyTerm{
		{api.Term{}, api.ErrRange},
		{api.Term{Kind: 4, S: "a"}, api.ErrRange},
		{api.Term{Kind: -1, S: long}, api.ErrRange},
		{named(long), api.ErrFull},
		{text(long, "e"), api.ErrFull},
		{named(""), api.ErrSyntax},
		{anon("A"), api.ErrSyntax},
		{text("\n", ""), api.ErrSyntax},
		{api.Term{Kind: api.Name, S: "a", Lang: "en"}, api.ErrSyntax},
	}
}

// faultyQuery is a query that is none, and what chapter 14's Check tells of it.
type faultyQuery struct {
	q    api.Query
	want api.Errno
}

// noQueries are queries of all faults that Check tells of.
func noQueries() []faultyQuery {
	x := api.Query{Vars: vars("x"), Parts: []api.Pattern{part("?x a ?y")}, Limit: -1}
	with := func(change func(q *api.Query)) api.Query {
		q := x
		change(&q)
		return q
	}
	out := []faultyQuery{
		{api.Query{}, api.ErrNone},
		{with(func(q *api.Query) { q.Parts = slices.Repeat(x.Parts, api.MaxParts+1) }), api.ErrFull},
		{with(func(q *api.Query) { q.Parts = nil }), api.ErrNone},
		{with(func(q *api.Query) { q.Parts = append(x.Parts, part("?a ?b ?c"), part("?d ?e ?f"), part("?g ?g ?g")) }), api.ErrFull},
		{with(func(q *api.Query) { q.Vars = nil }), api.ErrNone},
		{with(func(q *api.Query) { q.Vars = vars("xz") }), api.ErrNone},
		{with(func(q *api.Query) { q.Vars = vars("xyx") }), api.ErrClash},
		{with(func(q *api.Query) { q.Order = "y" }), api.ErrNone},
		{with(func(q *api.Query) { q.Down = true }), api.ErrShape},
		{limited(x, -2), api.ErrRange},
		{limited(x, api.MaxAnswers+1), api.ErrRange},
	}
	for _, bad := range noSlots() {
		for at := range 3 {
			wrong := placed(at, bad.s, [3]api.Slot{free("x"), free("x"), free("x")})
			out = append(out,
				faultyQuery{with(func(q *api.Query) { q.Parts = []api.Pattern{wrong} }), bad.want},
				faultyQuery{with(func(q *api.Query) { q.Parts = append(x.Parts, wrong) }), bad.want})
		}
	}
	return out
}

// wantTold fails unless the error is just the one that is wanted, and nil where nothing is wrong.
func wantTold(t *testing.T, what any, err error, want api.Errno) {
	t.Helper()
	if got := plain.Told(err); got != want || (err == nil) != (want == api.OK) {
		t.Errorf("%v: told %v, want %v", what, err, want)
	}
}

// same tells whether two lists of answers are.
func same(a, b [][]api.Term) bool { return slices.EqualFunc(a, b, slices.Equal) }

// wantSolved fails unless Solve answers these, leaves what it was given alone, and answers the same when its last answer was written into.
func wantSolved(t *testing.T, l []api.Triple, q api.Query, want [][]api.Term) {
	t.Helper()
	kept, asked := slices.Clone(l), fmt.Sprint(q)
	for range 2 {
		got, err := solve.Solve(l, q)
		wantTold(t, asked, err, api.OK)
		if !same(got, want) {
			t.Errorf("Solve(%v, %v) = %v, want %v", l, asked, got, want)
		}
		for i := range got {
			clear(got[i][:cap(got[i])])
		}
		clear(got[:cap(got)])
		if !slices.Equal(l, kept) || fmt.Sprint(q) != asked {
			t.Fatalf("Solve(%v, %v) wrote into what it was given: %v, %v", kept, asked, l, q)
		}
	}
}

// wantCount fails unless Naive tells so many.
func wantCount(t *testing.T, l []api.Triple, q api.Query, want int) {
	t.Helper()
	got, err := solve.Naive(l, q)
	wantTold(t, q, err, api.OK)
	if got != want {
		t.Errorf("Naive(%v, %v) = %d, want %d", l, q, got, want)
	}
}

// wantUnsolved fails unless Solve and Naive tell this error, and nothing else.
func wantUnsolved(t *testing.T, l []api.Triple, q api.Query, want api.Errno) {
	t.Helper()
	what := fmt.Sprint(q, " of ", len(l))
	got, err := solve.Solve(l, q)
	wantTold(t, what, err, want)
	if len(got) != 0 {
		t.Errorf("Solve(%v) = %v, want none", what, got)
	}
	n, err := solve.Naive(l, q)
	wantTold(t, what, err, want)
	if n != 0 {
		t.Errorf("Naive(%v) = %d, want 0", what, n)
	}
}

// wantSet fails at once unless a list of a test is a set.
func wantSet(t *testing.T, l []api.Triple) {
	t.Helper()
	if err := triple.Sorted(l); err != nil {
		t.Fatalf("%v is no set: %v", l, err)
	}
}
