package plan_test

import (
	"slices"
	"testing"

	"strataweb/api"
	"strataweb/match"
	"strataweb/plan"
	"strataweb/set"
	"strataweb/solve"
)

func TestCost(t *testing.T) {
	l := list("alb", "alc", "blc", "bld", "cla", "dtd", "dte", "lla")
	wantSet(t, l)
	for _, c := range []struct {
		text string
		want int
	}{
		{"select ?x where ?x l a", 2},
		{"select ?x where ?x l z", 0},
		{"select ?x where ?x ?y ?z", 8},
		{"select ?x where ?x ?x ?y", 1},
		// What each part adds: 6, then of each of these what goes on from it.
		{"select ?x where ?x l ?y and ?y l ?z", 6 + 8},
		{"select ?x where ?x l a and ?y l ?x", 2 + 2},
		{"select ?x where ?y l ?x and ?x l a", 6 + 2},
		{"select ?x where a l ?x and ?x l ?y and ?y l ?z", 2 + 3 + 3},
		// A part without a variable, or with none that is left, matches one or none, as often as there are answers.
		{"select ?x where a l b and ?x l a", 1 + 2},
		{"select ?x where ?x l a and a l b", 2 + 2},
		{"select ?x where ?x l a and a l a", 2},
		{"select ?x where a l a and ?x l a", 0},
		{"select ?x where ?x l a and ?x l a and ?x l a", 2 + 2 + 2},
		{"select ?x where ?x l ?y and ?y l ?x", 6 + 2},
		// Parts that share no variable go with each other in all ways.
		{"select ?x where ?x l a and d t ?y", 2 + 4},
		{"select ?x where ?x l ?y and d t ?z and ?v ?v ?w", 6 + 12 + 12},
	} {
		q := asking(t, c.text)
		wantModelCost(t, l, q)
		wantCost(t, l, q, c.want)
		// Distinct and Limit do not matter.
		wantCost(t, l, with(q, func(q *api.Query) { q.Limit, q.Distinct, q.Order, q.Down = 0, true, q.Vars[0], true }), c.want)
		wantCost(t, nil, q, 0)
	}
}

// answersTo calls with each answer to parts, as terms of these variables: each term of the set is tried for each.
func answersTo(t *testing.T, l []api.Triple, parts []api.Pattern, call func(names []string, vals []api.Term)) {
	t.Helper()
	terms, err := set.Terms(l)
	wantTold(t, l, err, api.OK)
	var names []string
	for _, p := range parts {
		own, err := match.Vars(p)
		wantTold(t, p, err, api.OK)
		for _, name := range own {
			if !slices.Contains(names, name) {
				names = append(names, name)
			}
		}
	}
	var vals []api.Term
	var try func()
	try = func() {
		if len(vals) < len(names) {
			for _, x := range terms {
				vals = append(vals, x)
				try()
				vals = vals[:len(vals)-1]
			}
			return
		}
		for _, p := range parts {
			if countBound(t, l, p, names, vals) == 0 {
				return
			}
		}
		call(names, vals)
	}
	try()
}

// countBound is chapter 5's Count of chapter 15's Bind.
func countBound(t *testing.T, l []api.Triple, p api.Pattern, names []string, vals []api.Term) int {
	t.Helper()
	bound, err := solve.Bind(p, names, vals)
	wantTold(t, p, err, api.OK)
	n, err := match.Count(l, bound)
	wantTold(t, bound, err, api.OK)
	return n
}

// wantModelCost fails unless Cost says of a set and a query that has no fault what comes of the chapter's words: each part is bound by each answer to those ahead, and counted.
func wantModelCost(t *testing.T, l []api.Triple, q api.Query) {
	t.Helper()
	if _, err := solve.Naive(l, q); err != nil {
		wantNoCost(t, l, q, errno(err))
		return
	}
	cost := 0
	for i, p := range q.Parts {
		answersTo(t, l, q.Parts[:i], func(names []string, vals []api.Term) {
			cost += countBound(t, l, p, names, vals)
		})
	}
	wantCost(t, l, q, cost)
}

func TestCostOfAllSmall(t *testing.T) {
	for i, l := range someSets(t) {
		for j, q := range someQueries(t) {
			// All would take long: each set has its share of them.
			if (i+j)%9 == 0 {
				wantModelCost(t, l, q)
			}
		}
	}
}

// There may be as many answers as MaxAnswers to the first part, to the first two, and so on, and no more.
func TestCostFull(t *testing.T) {
	const full = -1
	for _, c := range []struct {
		sizes []int
		parts string
		want  int
	}{
		{[]int{api.MaxSet}, "?v p ?x", api.MaxSet},
		{[]int{20, 25}, "a p ?x and b p ?y", 20 + api.MaxAnswers},
		{[]int{25, 20}, "a p ?x and b p ?y", 25 + api.MaxAnswers},
		{[]int{3, 167}, "a p ?x and b p ?y", full},
		{[]int{167, 3}, "a p ?x and b p ?y", full},
		{[]int{22}, "a p ?x and a p ?y", 22 + 484},
		{[]int{23}, "a p ?x and a p ?y", full},
		// A later part that leaves few of them does not make up for it; an earlier one keeps it from coming to that.
		{[]int{3, 167, 1}, "a p ?x and b p ?y and c p ?x", full},
		{[]int{3, 167, 1}, "a p ?x and c p ?x and b p ?y", 3 + 1 + 167},
		{[]int{3, 167, 1}, "a p ?x and b p ?y and z z z", full},
		{[]int{3, 167, 1}, "z z z and a p ?x and b p ?y", 0},
		// The sum may be above MaxAnswers.
		{[]int{20, 25, 1}, "a p ?x and b p ?y and a p ?x and b p ?y and a p ?x and c p ?z", 20 + 5*api.MaxAnswers},
		{[]int{20, 25, 2}, "a p ?x and b p ?y and a p ?x and b p ?y and a p ?x and c p ?z", full},
	} {
		l := stars(c.sizes...)
		wantSet(t, l)
		for _, head := range []string{"select ?x where ", "select distinct ?x where "} {
			for _, tail := range []string{"", " limit 0", " limit 1"} {
				q := asking(t, head+c.parts+tail)
				if c.want < 0 {
					wantNoCost(t, l, q, api.ErrFull)
				} else {
					wantCost(t, l, q, c.want)
				}
			}
		}
	}
}

// What is wrong with the set is told first, then what is wrong with the query, then that there are too many.
func TestCostWrong(t *testing.T) {
	right := asking(t, "select ?x where ?x p ?y and ?z p ?w")
	large := stars(api.MaxSet)
	wantNoCost(t, large, right, api.ErrFull)
	for _, bad := range noSets() {
		wantNoCost(t, bad.l, right, bad.want)
		for _, none := range noQueries(t) {
			wantNoCost(t, bad.l, none.q, bad.want)
		}
	}
	for _, none := range noQueries(t) {
		for _, l := range [][]api.Triple{nil, list("apb"), large} {
			wantNoCost(t, l, none.q, none.want)
		}
	}
	wantNoCost(t, large, with(right, func(q *api.Query) { q.Limit = -2 }), api.ErrRange)
}

// What lies behind a list's length is neither read nor written.
func TestCostNothingBehindTheLength(t *testing.T) {
	l := list("apb", "bpc", "aaa", "aaa")
	q := asking(t, "select ?x where ?x p ?y and ?y p ?z and a p b and z z z")
	kept := slices.Clone(q.Parts)
	q.Parts = q.Parts[:2]
	wantCost(t, l[:2], q, 2+1)
	if !slices.Equal(q.Parts[:4], kept) || !slices.Equal(l, list("apb", "bpc", "aaa", "aaa")) {
		t.Errorf("written into: %v, %v", q.Parts[:4], l)
	}
}

// The order that Order tells costs no more than the first one, where that is far from it.
func TestCostOfOrder(t *testing.T) {
	l := stars(50, 40, 1)
	q := asking(t, "select ?x where ?u p ?x and c p ?x and a ?v ?x")
	order, err := plan.Order(l, q)
	wantTold(t, q, err, api.OK)
	swapped, err := plan.Swap(q, order)
	wantTold(t, q, err, api.OK)
	wantCost(t, l, q, 91+3+3)
	wantCost(t, l, swapped, 1+1+3)
}
