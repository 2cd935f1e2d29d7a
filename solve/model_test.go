package solve_test

import (
	"cmp"
	"slices"
	"testing"

	"strataweb/api"
	"strataweb/match"
	"strataweb/set"
	"strataweb/term"
)

// given are terms, by variables.
type given map[string]api.Term

// is tells the triple that a pattern is when its variables have terms.
func (g given) is(p api.Pattern) api.Triple {
	x := func(s api.Slot) api.Term {
		if s.Var != "" {
			return g[s.Var]
		}
		return s.Term
	}
	return said(x(p.S), x(p.P), x(p.O))
}

// varsOf are the variables of parts, each once.
func varsOf(t *testing.T, parts []api.Pattern) []string {
	t.Helper()
	var out []string
	for _, p := range parts {
		own, err := match.Vars(p)
		wantTold(t, p, err, api.OK)
		out = append(out, own...)
	}
	slices.Sort(out)
	return slices.Compact(out)
}

// tried calls with each way to give the variables terms with which each part is a triple of the set, in the chapter's words: each term of the set is tried for each variable.
func tried(t *testing.T, l []api.Triple, parts []api.Pattern, call func(g given)) {
	t.Helper()
	terms, err := set.Terms(l)
	wantTold(t, l, err, api.OK)
	names := varsOf(t, parts)
	g := given{}
	var try func(n int)
	try = func(n int) {
		if n < len(names) {
			for _, x := range terms {
				g[names[n]] = x
				try(n + 1)
			}
			return
		}
		for _, p := range parts {
			if !slices.Contains(l, g.is(p)) {
				return
			}
		}
		call(g)
	}
	try(0)
}

// isFull tells whether there are more answers than may be to the first part alone, the first two, or so on.
func isFull(t *testing.T, l []api.Triple, parts []api.Pattern) bool {
	t.Helper()
	for n := range parts {
		size := 0
		tried(t, l, parts[:n+1], func(given) { size++ })
		if size > api.MaxAnswers {
			return true
		}
	}
	return false
}

// ordered puts answers in a query's order by two stable sorts: as they are sorted, then by the variable.
func ordered(q api.Query, all [][]api.Term) {
	slices.SortStableFunc(all, func(a, b []api.Term) int {
		return slices.CompareFunc(a, b, term.Compare)
	})
	at := slices.Index(q.Vars, q.Order)
	if q.Order == "" || at < 0 {
		return
	}
	slices.SortStableFunc(all, func(a, b []api.Term) int {
		if q.Down {
			a, b = b, a
		}
		return cmp.Or(cmp.Compare(a[at].Kind, b[at].Kind), cmp.Compare(a[at].S, b[at].S), cmp.Compare(a[at].Lang, b[at].Lang))
	})
}

// wantModel fails unless Solve and Naive say of a set and a query that has no fault what comes of trying all.
func wantModel(t *testing.T, l []api.Triple, q api.Query) {
	t.Helper()
	if isFull(t, l, q.Parts) {
		wantUnsolved(t, l, q, api.ErrFull)
		return
	}
	var all [][]api.Term
	tried(t, l, q.Parts, func(g given) {
		var row []api.Term
		for _, name := range q.Vars {
			row = append(row, g[name])
		}
		all = append(all, row)
	})
	wantCount(t, l, q, len(all))
	ordered(q, all)
	if q.Distinct {
		var once [][]api.Term
		for _, row := range all {
			if !slices.ContainsFunc(once, func(x []api.Term) bool { return slices.Equal(x, row) }) {
				once = append(once, row)
			}
		}
		all = once
	}
	if q.Limit >= 0 {
		all = all[:min(q.Limit, len(all))]
	}
	wantSolved(t, l, q, all)
}
