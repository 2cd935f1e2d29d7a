package ask_test

import (
	"math"
	"slices"
	"strings"
	"testing"

	"strataweb/api"
	"strataweb/plain"
)

// named, anon and text make terms.
func named(s string) api.Term { return api.Term{Kind: api.Name, S: s} }

func anon(s string) api.Term { return api.Term{Kind: api.Anon, S: s} }

func text(s, lang string) api.Term { return api.Term{Kind: api.Text, S: s, Lang: lang} }

// free makes a slot of a variable, just one of a term; shape makes a pattern of slots.
func free(name string) api.Slot { return api.Slot{Var: name} }

func just(x api.Term) api.Slot { return api.Slot{Term: x} }

func shape(s, p, o api.Slot) api.Pattern { return api.Pattern{S: s, P: p, O: o} }

// placed makes a pattern that has a slot at a place, and others of it elsewhere.
func placed(at int, s api.Slot, others [3]api.Slot) api.Pattern {
	others[at] = s
	return shape(others[0], others[1], others[2])
}

// part makes a pattern of three words: a variable behind `?`, else a Name.
func part(s, p, o string) api.Pattern {
	slot := func(word string) api.Slot {
		if name, ok := strings.CutPrefix(word, "?"); ok {
			return free(name)
		}
		return just(named(word))
	}
	return shape(slot(s), slot(p), slot(o))
}

// asking makes a query without more.
func asking(vars []string, parts ...api.Pattern) api.Query {
	return api.Query{Vars: vars, Parts: parts, Limit: -1}
}

// ordered, limited and distinct make of a query one that has that, too.
func ordered(q api.Query, name string, down bool) api.Query {
	q.Order, q.Down = name, down
	return q
}

func limited(q api.Query, n int) api.Query {
	q.Limit = n
	return q
}

func distinct(q api.Query) api.Query {
	q.Distinct = true
	return q
}

// vars makes a list of variables, a byte each.
func vars(letters string) []string {
	if letters == "" {
		return nil
	}
	return strings.Split(letters, "")
}

// wide makes parts that have just so many variables: a, b, c and so on, three a part.
func wide(size int) []api.Pattern {
	var out []api.Pattern
	for n := 0; n < size; n += 3 {
		slots := [3]api.Slot{just(named("a")), just(named("a")), just(named("a"))}
		for i := range min(3, size-n) {
			slots[i] = free(string(rune('a' + n + i)))
		}
		out = append(out, shape(slots[0], slots[1], slots[2]))
	}
	return out
}

// written is a query that is right, and its text.
type written struct {
	q    api.Query
	text string
}

// writtens are queries that are written out by hand.
func writtens() []written {
	x := asking(vars("x"), part("?x", "a", "b"))
	full := strings.Repeat("a", api.MaxText)
	a := just(named("a"))
	return []written{
		{x, "select ?x where ?x a b"},
		{distinct(x), "select distinct ?x where ?x a b"},
		{ordered(x, "x", false), "select ?x where ?x a b order ?x"},
		{ordered(x, "x", true), "select ?x where ?x a b order ?x down"},
		{limited(x, 0), "select ?x where ?x a b limit 0"},
		{limited(x, 10), "select ?x where ?x a b limit 10"},
		{limited(x, api.MaxAnswers), "select ?x where ?x a b limit 500"},
		{limited(ordered(x, "x", false), 3), "select ?x where ?x a b order ?x limit 3"},
		{distinct(limited(ordered(x, "x", true), 3)), "select distinct ?x where ?x a b order ?x down limit 3"},
		{asking(vars("yx"), part("?x", "?x", "?y")), "select ?y ?x where ?x ?x ?y"},
		{ordered(asking(vars("xy"), part("?x", "?z", "?y")), "y", false), "select ?x ?y where ?x ?z ?y order ?y"},
		{asking(vars("z"), part("?x", "a", "?y"), part("?y", "b", "?z"), part("a", "b", "c")), "select ?z where ?x a ?y and ?y b ?z and a b c"},
		{asking(vars("x"), part("a", "?x", "b"), part("a", "?x", "b")), "select ?x where a ?x b and a ?x b"},
		// Any term may stand anywhere, though in no triple.
		{asking(vars("x"), shape(just(text("a b", "en")), just(anon("b7")), free("x"))), `select ?x where "a b"@en _b7 ?x`},
		{asking(vars("x"), shape(free("x"), just(text(` " \ `, "")), just(text("", "de")))), `select ?x where ?x " \" \\ " ""@de`},
		{asking(vars("x"), shape(free("x"), just(text(`\`, "")), just(text(`" and a b c`, "")))), `select ?x where ?x "\\" "\" and a b c"`},
		{asking(vars("x"), shape(just(named(full)), just(anon(full)), free("x")), shape(a, a, just(text(strings.Repeat(`"`, api.MaxText), "en")))), "select ?x where " + full + " _" + full + " ?x and a a \"" + strings.Repeat(`\"`, api.MaxText) + "\"@en"},
		{asking([]string{"abcdefghij"}, shape(a, free("abcdefghij"), a)), "select ?abcdefghij where a ?abcdefghij a"},
		// The words of the form are names, too, and variables.
		{asking(vars("x"), part("order", "?x", "down")), "select ?x where order ?x down"},
		{ordered(limited(asking(vars("x"), part("order", "?x", "limit")), 5), "x", true), "select ?x where order ?x limit order ?x down limit 5"},
		{asking(vars("x"), part("and", "and", "and"), part("and", "?x", "where")), "select ?x where and and and and and ?x where"},
		{asking([]string{"where"}, part("select", "?where", "distinct")), "select ?where where select ?where distinct"},
		{distinct(asking([]string{"distinct"}, part("where", "?distinct", "limit"))), "select distinct ?distinct where where ?distinct limit"},
		{asking(vars("abcdefgh"), wide(8)...), "select ?a ?b ?c ?d ?e ?f ?g ?h where ?a ?b ?c and ?d ?e ?f and ?g ?h a"},
		{asking(vars("x"), part("?x", "a", "a"), part("?x", "a", "b"), part("?x", "a", "c"), part("?x", "a", "d"), part("?x", "a", "e"), part("?x", "a", "f")), "select ?x where ?x a a and ?x a b and ?x a c and ?x a d and ?x a e and ?x a f"},
	}
}

// faultySlot is a slot that is none, and what chapter 5's Vars tells of it.
type faultySlot struct {
	s    api.Slot
	want api.Errno
}

// noSlots are slots of all faults.
func noSlots() []faultySlot {
	long := strings.Repeat("a", api.MaxText+1)
	return []faultySlot{
		{free("X"), api.ErrSyntax},
		{free("?x"), api.ErrSyntax},
		{free("x "), api.ErrSyntax},
		{free("elevenlette"), api.ErrSyntax},
		{api.Slot{Var: "x1", Term: named("a")}, api.ErrSyntax},
		{api.Slot{Var: "x", Term: named("a")}, api.ErrShape},
		{api.Slot{Var: "x", Term: api.Term{Kind: 4}}, api.ErrShape},
		{api.Slot{}, api.ErrRange},
		{just(api.Term{Kind: 4, S: "a"}), api.ErrRange},
		{just(named(long)), api.ErrFull},
		{just(text(long, "e")), api.ErrFull},
		{just(named("1")), api.ErrSyntax},
		{just(named("a b")), api.ErrSyntax},
		{just(text("\n", "")), api.ErrSyntax},
	}
}

// limits are Limits, and what is told of them.
func limits() map[int]api.Errno {
	return map[int]api.Errno{
		math.MinInt: api.ErrRange, -500: api.ErrRange, -2: api.ErrRange,
		-1: api.OK, 0: api.OK, 1: api.OK, 499: api.OK, api.MaxAnswers: api.OK,
		501: api.ErrRange, 1 << 32: api.ErrRange, 1<<32 - 1: api.ErrRange, math.MaxInt: api.ErrRange,
	}
}

// wantTold fails unless the error is just the one that is wanted, and nil where nothing is wrong.
func wantTold(t *testing.T, what any, err error, want api.Errno) {
	t.Helper()
	if got := plain.Told(err); got != want || (err == nil) != (want == api.OK) {
		t.Errorf("%q: told %v, want %v", what, err, want)
	}
}

// same tells whether two queries are: an empty list and nil are.
func same(a, b api.Query) bool {
	return slices.Equal(a.Vars, b.Vars) && slices.Equal(a.Parts, b.Parts) &&
		a.Order == b.Order && a.Down == b.Down && a.Distinct == b.Distinct && a.Limit == b.Limit
}

// wantQuery fails unless a query is this one.
func wantQuery(t *testing.T, what any, got, want api.Query) {
	t.Helper()
	if !same(got, want) {
		t.Errorf("%q: %+v, want %+v", what, got, want)
	}
}
