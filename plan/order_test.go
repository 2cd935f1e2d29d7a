package plan_test

import (
	"slices"
	"testing"

	"strataweb/api"
	"strataweb/match"
	"strataweb/plan"
)

func TestOrder(t *testing.T) {
	l := list("apb", "apc", "apd", "bpc", "bqa", "cqa", "cqb")
	wantSet(t, l)
	for _, c := range []struct {
		text string
		want []int
	}{
		{"select ?x where ?x p ?y", []int{0}},
		// Most slots with a term, wherever they stand.
		{"select ?x where ?x ?y ?z and ?x p ?y and ?x p b and a p b", []int{3, 2, 1, 0}},
		{"select ?x where a ?x b and ?y ?z b and ?u p ?v and ?w ?r ?s", []int{0, 1, 2, 3}},
		{"select ?u where ?u ?v ?w and ?r ?s b", []int{1, 0}},
		// That weighs more than how many match.
		{"select ?y where ?x ?z nowhere and a p ?y", []int{1, 0}},
		// Variables of those that were taken are as terms; so `?x ?y ?z` comes ahead of `?w q ?v`.
		{"select ?x where ?x ?y ?z and ?w q ?v and ?x ?y b", []int{2, 0, 1}},
		{"select ?z where ?z p ?w and ?y p ?z and a p ?y", []int{2, 1, 0}},
		{"select ?x where a ?x ?y and ?u ?v q and ?x ?x ?y", []int{1, 0, 2}},
		{"select ?x where ?x ?y ?z and ?z q a and ?w q b", []int{2, 1, 0}},
		// One that stands twice is no term until it is taken.
		{"select ?x where ?x ?x ?x and ?y p ?z", []int{1, 0}},
		{"select ?x where ?x p ?x and ?y p b", []int{1, 0}},
		{"select ?x where ?y q a and ?w p ?v and ?y ?y ?x", []int{0, 2, 1}},
		// Of equal ones the one that fewest match.
		{"select ?x where a p ?x and b p ?x", []int{1, 0}},
		{"select ?x where a p ?x and b q ?y and c q ?z and z q ?w", []int{3, 1, 2, 0}},
		{"select ?x where ?x p ?y and ?z q ?w", []int{1, 0}},
		{"select ?x where ?x q ?y and ?z p ?z", []int{1, 0}},
		// What matches is told of a part as it is, whatever its variables would have.
		{"select ?x where c q ?x and ?x p ?y and ?x ?z c", []int{0, 2, 1}},
		{"select ?x where a p b and b q a and z z z and c q ?x", []int{2, 0, 1, 3}},
		// Then the first.
		{"select ?x where b p ?x and b q ?y and c p ?z and b p ?x", []int{2, 0, 3, 1}},
		{"select ?x where ?x ?y ?z and ?u ?v ?w", []int{0, 1}},
		{"select ?x where b q ?x and b p ?y", []int{0, 1}},
		{"select ?x where b p ?y and b q ?x", []int{0, 1}},
		{"select ?x where ?x p b and ?x p b and ?x p b and ?x p b and ?x p b and ?x p b", []int{0, 1, 2, 3, 4, 5}},
	} {
		q := asking(t, c.text)
		wantOrder(t, l, q, c.want)
		// What is told, and in which order, does not matter.
		wantOrder(t, l, with(q, func(q *api.Query) { q.Limit, q.Distinct, q.Order, q.Down = 0, true, q.Vars[0], true }), c.want)
	}
}

// Over an empty set all counts are equal.
func TestOrderOfNothing(t *testing.T) {
	for _, l := range [][]api.Triple{nil, {}} {
		wantOrder(t, l, asking(t, "select ?x where a p ?x and b p ?x"), []int{0, 1})
		wantOrder(t, l, asking(t, "select ?x where ?x p ?y and b p ?x"), []int{1, 0})
	}
}

// There may be far more answers than MaxAnswers: none is sought.
func TestOrderOfMany(t *testing.T) {
	l := stars(100, 90, 10)
	wantSet(t, l)
	q := asking(t, "select ?x where a p ?x and b p ?y and c p ?z and ?u p ?v and ?w p ?v")
	wantNoCost(t, l, q, api.ErrFull)
	wantOrder(t, l, q, []int{2, 1, 0, 3, 4})
}

// slotsKnown tells how many slots of a part have a term when these parts were taken.
func slotsKnown(p api.Pattern, taken []api.Pattern) int {
	size := 0
	for _, s := range []api.Slot{p.S, p.P, p.O} {
		isIn := func(other api.Pattern) bool {
			return s.Var == other.S.Var || s.Var == other.P.Var || s.Var == other.O.Var
		}
		if s.Var == "" || slices.ContainsFunc(taken, isIn) {
			size++
		}
	}
	return size
}

// modelOrder takes one part after the other in the chapter's words: none that is left is better than it, and none that is as good stands ahead of it.
func modelOrder(t *testing.T, l []api.Triple, parts []api.Pattern) []int {
	t.Helper()
	var order []int
	var taken []api.Pattern
	count := func(at int) int {
		n, err := match.Count(l, parts[at])
		wantTold(t, parts[at], err, api.OK)
		return n
	}
	for range parts {
		best := -1
		for at, p := range parts {
			if slices.Contains(order, at) {
				continue
			}
			if best < 0 || slotsKnown(p, taken) > slotsKnown(parts[best], taken) ||
				slotsKnown(p, taken) == slotsKnown(parts[best], taken) && count(at) < count(best) {
				best = at
			}
		}
		order, taken = append(order, best), append(taken, parts[best])
	}
	return order
}

func TestOrderOfAllSmall(t *testing.T) {
	for _, l := range someSets(t) {
		for _, q := range someQueries(t) {
			wantOrder(t, l, q, modelOrder(t, l, q.Parts))
		}
	}
}

// What is wrong with the set is told first, then what is wrong with the query.
func TestOrderWrong(t *testing.T) {
	right := asking(t, "select ?x where ?x p ?y and a p ?x")
	for _, bad := range noSets() {
		wantNoOrder(t, bad.l, right, bad.want)
		for _, none := range noQueries(t) {
			wantNoOrder(t, bad.l, none.q, bad.want)
		}
	}
	for _, none := range noQueries(t) {
		for _, l := range [][]api.Triple{nil, list("apb"), stars(api.MaxSet)} {
			wantNoOrder(t, l, none.q, none.want)
		}
	}
}

// What lies behind a list's length is neither read nor written.
func TestOrderNothingBehindTheLength(t *testing.T) {
	l := list("apb", "bpc", "aaa", "aaa")
	q := asking(t, "select ?x where ?x p ?y and a p ?x and a p b and z z z")
	kept := slices.Clone(q.Parts)
	q.Parts = q.Parts[:2]
	wantOrder(t, l[:2], q, []int{1, 0})
	if !slices.Equal(q.Parts[:4], kept) || !slices.Equal(l, list("apb", "bpc", "aaa", "aaa")) {
		t.Errorf("written into: %v, %v", q.Parts[:4], l)
	}
}

func FuzzOrder(f *testing.F) {
	f.Add(uint64(0), uint64(0), 3)
	f.Add(uint64(0x123456789abcdef0), uint64(31), 6)
	f.Fuzz(func(t *testing.T, slots, bits uint64, size int) {
		q := made(slots, size)
		var l []api.Triple
		for i, x := range list("aaa", "aab", "aba", "abb", "baa", "bab", "bba", "bbb") {
			if bits>>i&1 == 1 {
				l = append(l, x)
			}
		}
		got, err := plan.Order(l, q)
		if err != nil {
			wantNoCost(t, l, q, errno(err))
			return
		}
		wantOrder(t, l, q, modelOrder(t, l, q.Parts))
		swapped, err := plan.Swap(q, got)
		wantTold(t, q, err, api.OK)
		wantModelCost(t, l, swapped)
		wantModelCost(t, l, q)
	})
}

// made makes a query of bits: so many parts, of three variables and two Names.
func made(slots uint64, size int) api.Query {
	q := api.Query{Vars: []string{"x"}, Limit: -1}
	next := func() api.Slot {
		s := []api.Slot{{Var: "x"}, {Var: "y"}, {Term: named("a")}, {Term: named("b")}, {Var: "z"}}[slots%5]
		slots /= 5
		return s
	}
	for range min(max(size, 0), api.MaxParts+1) {
		q.Parts = append(q.Parts, api.Pattern{S: next(), P: next(), O: next()})
	}
	return q
}

func errno(err error) api.Errno {
	e, _ := err.(api.Errno)
	return e
}
