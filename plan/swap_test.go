package plan_test

import (
	"fmt"
	"math"
	"slices"
	"testing"

	"strataweb/api"
	"strataweb/plan"
	"strataweb/solve"
)

// wantSwapped fails unless Swap answers this text's query, leaves what it was given alone, and shares no memory with it.
func wantSwapped(t *testing.T, q api.Query, order []int, want api.Query) {
	t.Helper()
	asked, kept := fmt.Sprint(q), slices.Clone(order)
	for range 2 {
		got, err := plan.Swap(q, order)
		wantTold(t, asked, err, api.OK)
		if fmt.Sprint(got) != fmt.Sprint(want) {
			t.Errorf("Swap(%v, %v) = %v, want %v", asked, order, got, want)
		}
		clear(got.Vars[:cap(got.Vars)])
		clear(got.Parts[:cap(got.Parts)])
		if fmt.Sprint(q) != asked || !slices.Equal(order, kept) {
			t.Fatalf("Swap(%v, %v) wrote into what it was given: %v, %v", asked, kept, q, order)
		}
	}
}

// wantUnswapped fails unless Swap tells this error, and nothing else.
func wantUnswapped(t *testing.T, q api.Query, order []int, want api.Errno) {
	t.Helper()
	got, err := plan.Swap(q, order)
	wantTold(t, fmt.Sprint(q, " by ", len(order)), err, want)
	if fmt.Sprint(got) != fmt.Sprint(api.Query{}) {
		t.Errorf("Swap(%v, %v) = %v, and %v", q, order, got, err)
	}
}

func TestSwap(t *testing.T) {
	for _, c := range []struct {
		text  string
		order []int
		want  string
	}{
		{"select ?x where ?x p a", []int{0}, "select ?x where ?x p a"},
		{"select ?x where ?x p a and b q ?y", []int{0, 1}, "select ?x where ?x p a and b q ?y"},
		{"select ?x where ?x p a and b q ?y", []int{1, 0}, "select ?x where b q ?y and ?x p a"},
		// The order tells which comes at a place, not at which place one comes.
		{"select ?x where a a ?x and b b ?x and c c ?x", []int{1, 2, 0}, "select ?x where b b ?x and c c ?x and a a ?x"},
		{"select ?x where a a ?x and b b ?x and c c ?x", []int{2, 0, 1}, "select ?x where c c ?x and a a ?x and b b ?x"},
		// All else stays, Vars in their order.
		{"select distinct ?y ?x where ?x p a and b q ?y order ?x down limit 7", []int{1, 0}, "select distinct ?y ?x where b q ?y and ?x p a order ?x down limit 7"},
		{"select ?y where ?x p ?y and a a a order ?y limit 0", []int{1, 0}, "select ?y where a a a and ?x p ?y order ?y limit 0"},
	} {
		wantSwapped(t, asking(t, c.text), c.order, asking(t, c.want))
	}
}

func TestSwapAllOrders(t *testing.T) {
	parts := asking(t, "select ?x where a a ?x and b b ?x and c c ?x and d d ?x and e e ?x and f f ?x").Parts
	for size := 1; size <= api.MaxParts; size++ {
		q := api.Query{Vars: []string{"x"}, Parts: parts[:size], Limit: -1}
		orders(size, func(order []int) {
			want := q
			want.Parts = nil
			for _, at := range order {
				want.Parts = append(want.Parts, parts[at])
			}
			wantSwapped(t, q, order, want)
		})
	}
}

// An answer answers in the order that Order tells as in any other.
func TestSwapAnswersAsWell(t *testing.T) {
	l := list("alb", "alc", "blc", "bld", "cla", "dld", "mtl")
	for _, s := range []string{
		"select ?x ?y ?z where ?x l ?y and ?y l ?z and ?z l ?x",
		"select ?x ?z where ?x l ?y and ?y ?p ?z and m t ?p and a l c",
	} {
		q := asking(t, s)
		want, err := solve.Solve(l, q)
		wantTold(t, s, err, api.OK)
		orders(len(q.Parts), func(order []int) {
			swapped, err := plan.Swap(q, order)
			wantTold(t, s, err, api.OK)
			got, err := solve.Solve(l, swapped)
			wantTold(t, s, err, api.OK)
			if fmt.Sprint(got) != fmt.Sprint(want) {
				t.Errorf("%v by %v: %v, want %v", s, order, got, want)
			}
		})
	}
}

func TestSwapNoOrder(t *testing.T) {
	two := asking(t, "select ?x where ?x p a and b q ?y")
	for _, order := range [][]int{
		nil, {}, {0}, {1}, {0, 0}, {1, 1}, {1, 2}, {2, 0}, {-1, 0}, {0, -1}, {0, 1, 1}, {0, 1, 2}, {1, 0, 0},
		{0, math.MaxInt}, {math.MinInt, 1}, {0, 1 << 32}, {0, 1<<32 + 1}, make([]int, 1_000_000),
	} {
		wantUnswapped(t, two, order, api.ErrShape)
	}
	wantUnswapped(t, asking(t, "select ?x where ?x p a"), nil, api.ErrShape)
	wantUnswapped(t, asking(t, "select ?x where ?x p a"), []int{1}, api.ErrShape)
	// All lists of numbers about as long as the parts are many: just the orders are taken.
	three := asking(t, "select ?x where ?x p a and b q ?y and c q ?y")
	for n := range 5 * 5 * 5 {
		order := []int{n%5 - 1, n/5%5 - 1, n/25 - 1}
		sorted := slices.Sorted(slices.Values(order))
		if slices.Equal(sorted, []int{0, 1, 2}) {
			continue
		}
		wantUnswapped(t, three, order, api.ErrShape)
	}
}

// What is wrong with the query is told ahead of what is wrong with the order.
func TestSwapWrong(t *testing.T) {
	for _, none := range noQueries(t) {
		var all []int
		for at := range none.q.Parts {
			all = append(all, at)
		}
		for _, order := range [][]int{all, append(slices.Clone(all), 0), nil, {0}, {0, 1}, {-1}, {9, 9}} {
			wantUnswapped(t, none.q, order, none.want)
		}
	}
}

// What lies behind a list's length is neither read nor written.
func TestSwapNothingBehindTheLength(t *testing.T) {
	q := asking(t, "select ?x ?y where ?x p a and b q ?y and c c c")
	kept := slices.Clone(q.Parts)
	q.Parts, q.Vars = q.Parts[:2], q.Vars[:1]
	order := []int{1, 0, 2}
	want := asking(t, "select ?x where b q ?y and ?x p a")
	wantSwapped(t, q, order[:2], want)
	wantUnswapped(t, q, order, api.ErrShape)
	wantUnswapped(t, q, order[:1], api.ErrShape)
	if !slices.Equal(q.Parts[:3], kept) || q.Vars[:2][1] != "y" || !slices.Equal(order, []int{1, 0, 2}) {
		t.Errorf("written into: %v, %v, %v", q.Parts[:3], q.Vars[:2], order)
	}
}
