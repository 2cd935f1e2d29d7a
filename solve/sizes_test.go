package solve_test

import (
	"slices"
	"testing"

	"strataweb/api"
	"strataweb/solve"
)

// wantSizes fails unless Sizes tells these, also when its last answer was written into.
func wantSizes(t *testing.T, l []api.Triple, q api.Query, want ...int) {
	t.Helper()
	for range 2 {
		got, err := solve.Sizes(l, q)
		wantTold(t, q, err, api.OK)
		if !slices.Equal(got, want) {
			t.Errorf("Sizes(%v, %v) = %v, want %v", l, q, got, want)
		}
		clear(got)
	}
}

// There is a size of each part, also where none is left to go on from, and ahead of the first variable.
func TestSizes(t *testing.T) {
	l := list("alb", "alc", "blc", "bld", "cla")
	for _, q := range []api.Query{asking(t, "select ?x where a l b and ?x l ?y and ?y l ?z and z z z and ?z l ?x")} {
		wantSizes(t, l, q, 1, 5, 6, 0, 0)
		wantSizes(t, l, distinct(limited(q, 0)), 1, 5, 6, 0, 0)
		wantSizes(t, nil, q, 0, 0, 0, 0, 0)
	}
	wantSizes(t, l, asking(t, "select ?x where ?x l a"), 1)
	wantSizes(t, stars(20, 25), asking(t, "select ?x where a p ?x and b p ?y and b p ?x"), 20, api.MaxAnswers, 500)
}

// They are what Naive tells of the first parts alone, wherever these are a query.
func TestSizesByNaive(t *testing.T) {
	l := list("alb", "alc", "blc", "bld", "cla", "dld", "mtl")
	q := asking(t, "select ?x where ?x l ?y and ?y ?p ?z and m t ?p and ?z l ?x and a l c")
	sizes, err := solve.Sizes(l, q)
	wantTold(t, q, err, api.OK)
	for i, n := range sizes {
		first := q
		first.Parts = q.Parts[:i+1]
		wantCount(t, l, first, n)
		wantModel(t, l, first)
	}
	if len(sizes) != len(q.Parts) {
		t.Errorf("Sizes(%v): %d, want %d", q, len(sizes), len(q.Parts))
	}
}

func TestSizesWrong(t *testing.T) {
	right := asking(t, "select ?x where ?x p ?y and ?z p ?w")
	wrong := func(l []api.Triple, q api.Query, want api.Errno) {
		t.Helper()
		got, err := solve.Sizes(l, q)
		wantTold(t, q, err, want)
		if len(got) != 0 {
			t.Errorf("Sizes(%v) = %v, want none", q, got)
		}
	}
	wrong(stars(api.MaxSet), right, api.ErrFull)
	for _, bad := range noSets() {
		wrong(bad.l, right, bad.want)
		wrong(bad.l, api.Query{}, bad.want)
	}
	for _, none := range noQueries() {
		wrong(stars(api.MaxSet), none.q, none.want)
	}
}
