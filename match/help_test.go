package match_test

import (
	"slices"
	"strconv"
	"strings"
	"testing"

	"strataweb/api"
	"strataweb/plain"
)

// named, anon and text make terms; said makes a triple of them.
func named(s string) api.Term { return api.Term{Kind: api.Name, S: s} }

func anon(s string) api.Term { return api.Term{Kind: api.Anon, S: s} }

func text(s, lang string) api.Term { return api.Term{Kind: api.Text, S: s, Lang: lang} }

func said(s, p, o api.Term) api.Triple { return api.Triple{S: s, P: p, O: o} }

// free makes a slot of a variable, just one of a term; shape makes a pattern of slots.
func free(name string) api.Slot { return api.Slot{Var: name} }

func just(x api.Term) api.Slot { return api.Slot{Term: x} }

func shape(s, p, o api.Slot) api.Pattern { return api.Pattern{S: s, P: p, O: o} }

// placed makes a pattern that has a slot at a place, and others of it elsewhere.
func placed(at int, s api.Slot, others [3]api.Slot) api.Pattern {
	others[at] = s
	return shape(others[0], others[1], others[2])
}

// list makes triples of Names, three bytes each.
func list(words ...string) []api.Triple {
	var l []api.Triple
	for _, w := range words {
		l = append(l, said(named(w[:1]), named(w[1:2]), named(w[2:3])))
	}
	return l
}

// span makes triples, rising, by numbers from one up to another one.
func span(from, to int) []api.Triple {
	var l []api.Triple
	for n := from; n < to; n++ {
		l = append(l, said(named("a"), named("p"), named("x"+strconv.Itoa(1000+n))))
	}
	return l
}

// terms are some that are unlike each other by Kind, by S or by Lang alone, rising.
func terms() []api.Term {
	return []api.Term{named("a"), named("b"), anon("a"), text("a", ""), text("a", "en")}
}

// universe are all triples of these terms, rising.
func universe() []api.Triple {
	var l []api.Triple
	for _, s := range terms()[:3] {
		for _, p := range terms()[:2] {
			for _, o := range terms() {
				l = append(l, said(s, p, o))
			}
		}
	}
	return l
}

// slots are all terms, and three variables.
func slots() []api.Slot {
	out := []api.Slot{free("x"), free("y"), free("zabcdefghi")}
	for _, x := range terms() {
		out = append(out, just(x))
	}
	return out
}

// patterns are all patterns of these slots.
func patterns() []api.Pattern {
	var out []api.Pattern
	for _, s := range slots() {
		for _, p := range slots() {
			for _, o := range slots() {
				out = append(out, shape(s, p, o))
			}
		}
	}
	return out
}

// faultySet is a list that is no set, and what Sorted tells of it.
type faultySet struct {
	l    []api.Triple
	want api.Errno
}

// noSets are lists of all faults that Sorted tells of.
func noSets() []faultySet {
	a := named("a")
	long := text(strings.Repeat("a", api.MaxText+1), "")
	return []faultySet{
		{list("aaa", "aaa"), api.ErrState},
		{list("aab", "aaa"), api.ErrState},
		{append(span(0, api.MaxSet-1), list("aaa")...), api.ErrState},
		{span(0, api.MaxSet+1), api.ErrFull},
		{make([]api.Triple, api.MaxSet+1), api.ErrFull},
		{[]api.Triple{said(a, a, long)}, api.ErrFull},
		{[]api.Triple{{}}, api.ErrRange},
		{append(list("aaa"), said(a, a, api.Term{Kind: 4, S: "a"})), api.ErrRange},
		{[]api.Triple{said(a, named("A"), a)}, api.ErrSyntax},
		{[]api.Triple{said(a, a, text("a", "e"))}, api.ErrSyntax},
		{[]api.Triple{said(text("a", ""), a, a)}, api.ErrShape},
		{append(list("aaa"), said(a, anon("a"), a)), api.ErrShape},
	}
}

// faultySlot is a slot that is none, and what is told of it.
type faultySlot struct {
	s    api.Slot
	want api.Errno
}

// noSlots are slots of all faults, and of several.
func noSlots() []faultySlot {
	long := strings.Repeat("a", api.MaxText+1)
	return slices.Concat(wrongVars(), []faultySlot{
		{api.Slot{Var: "x", Term: named("a")}, api.ErrShape},
		{api.Slot{Var: "x", Term: text("", "")}, api.ErrShape},
		{api.Slot{Var: "x", Term: api.Term{Kind: api.Name}}, api.ErrShape},
		{api.Slot{Var: "x", Term: api.Term{Kind: -1}}, api.ErrShape},
		{api.Slot{Var: "x", Term: api.Term{S: "a"}}, api.ErrShape},
		{api.Slot{Var: "x", Term: api.Term{S: long}}, api.ErrShape},
		{api.Slot{Var: "x", Term: api.Term{Lang: "e"}}, api.ErrShape},
		{api.Slot{Var: "zabcdefghi", Term: api.Term{Lang: "en"}}, api.ErrShape},
		{api.Slot{}, api.ErrRange},
		{just(api.Term{S: "a"}), api.ErrRange},
		{just(api.Term{Kind: 4, S: "a"}), api.ErrRange},
		{just(api.Term{Kind: -1, S: long, Lang: "e"}), api.ErrRange},
		{just(named(long)), api.ErrFull},
		{just(anon(strings.ToUpper(long))), api.ErrFull},
		{just(text(long, "e")), api.ErrFull},
		{just(named("")), api.ErrSyntax},
		{just(named("1")), api.ErrSyntax},
		{just(anon("A")), api.ErrSyntax},
		{just(text("\n", "")), api.ErrSyntax},
		{just(text("a", "e")), api.ErrSyntax},
		{just(api.Term{Kind: api.Anon, S: "a", Lang: "en"}), api.ErrSyntax},
	})
}

// wrongVars are slots whose Var is none: whether the Term is empty, or one, does not matter then.
func wrongVars() []faultySlot {
	var out []faultySlot
	for _, name := range []string{"X", "xY", "x1", "1", "?x", "x ", " x", "_", "x\n", "\x00", "é", "x\xff", "elevenlette", strings.Repeat("x", 1000), "ABCDEFGHIJKL"} {
		for _, x := range []api.Term{{}, named("a"), named("A"), {Kind: 4}, {S: "a"}, text(strings.Repeat("a", api.MaxText+1), "")} {
			out = append(out, faultySlot{api.Slot{Var: name, Term: x}, api.ErrSyntax})
		}
	}
	return out
}

// wantTold fails unless the error is just the one that is wanted, and nil where nothing is wrong.
func wantTold(t *testing.T, what any, err error, want api.Errno) {
	t.Helper()
	if got := plain.Told(err); got != want || (err == nil) != (want == api.OK) {
		t.Errorf("%v: told %v, want %v", what, err, want)
	}
}
