package dag_test

import (
	"math"
	"slices"
	"testing"

	"strataweb/api"
	"strataweb/dag"
	"strataweb/plain"
)

// of makes a commit with nothing wrong but, maybe, its parents.
func of(parents ...int) api.Commit {
	return api.Commit{Parents: parents, Layer: 1, Message: "m"}
}

// line makes so many commits, each of which comes of the one ahead of it.
func line(n int) []api.Commit {
	var l []api.Commit
	for i := range n {
		if i == 0 {
			l = append(l, of())
			continue
		}
		l = append(l, of(i-1))
	}
	return l
}

// choices are all parents that the commit with this number may have, in either order.
func choices(number int) [][]int {
	out := [][]int{nil}
	for p := range number {
		out = append(out, []int{p})
		for q := range number {
			if q != p {
				out = append(out, []int{p, q})
			}
		}
	}
	return out
}

// histories are all that so many commits may be.
func histories(n int) [][]api.Commit {
	out := [][]api.Commit{nil}
	for i := range n {
		var longer [][]api.Commit
		for _, l := range out {
			for _, parents := range choices(i) {
				longer = append(longer, append(slices.Clip(l), of(parents...)))
			}
		}
		out = longer
	}
	return out
}

// kin tells of each two whether the first is an ancestor of the second: by closing the parents under themselves, whatever their order.
func kin(l []api.Commit) [][]bool {
	is := make([][]bool, len(l))
	for i := range l {
		is[i] = make([]bool, len(l))
		is[i][i] = true
	}
	for i, c := range l {
		for _, p := range c.Parents {
			is[p][i] = true
		}
	}
	for by := range l {
		for a := range l {
			for b := range l {
				is[a][b] = is[a][b] || is[a][by] && is[by][b]
			}
		}
	}
	return is
}

// ancestorsBy are those of a commit, rising.
func ancestorsBy(is [][]bool, of int) []int {
	var out []int
	for i := range is {
		if is[i][of] {
			out = append(out, i)
		}
	}
	return out
}

// basesBy are those of two, word by word as the document has it.
func basesBy(is [][]bool, a, b int) []int {
	var out []int
	for i := range is {
		other := func(x int) bool { return x != i && is[x][a] && is[x][b] && is[i][x] }
		if is[i][a] && is[i][b] && !slices.ContainsFunc(ancestorsBy(is, a), other) {
			out = append(out, i)
		}
	}
	return out
}

// strange are numbers that are those of no commit of so many.
func strange(n int) []int {
	return []int{-1, -2, -n, -n - 1, n, n + 1, api.MaxCommits, 1 << 32, 1<<32 - 1, math.MaxInt, math.MaxInt - 1, math.MinInt, math.MinInt + 1}
}

// wantTold fails unless the error is just the one that is wanted, and nil where nothing is wrong.
func wantTold(t *testing.T, what any, err error, want api.Errno) {
	t.Helper()
	if got := plain.Told(err); got != want || (err == nil) != (want == api.OK) {
		t.Errorf("%v: told %v, want %v", what, err, want)
	}
}

// wantCheck fails unless Check tells this commit, and this of it.
func wantCheck(t *testing.T, what any, l []api.Commit, at int, want api.Errno) {
	t.Helper()
	got, err := dag.Check(l)
	wantTold(t, what, err, want)
	if got != at {
		t.Errorf("%v: told of commit %d, want %d", what, got, at)
	}
}

// wantList fails unless a call answered these numbers, with nothing wrong.
func wantList(t *testing.T, what any, got []int, err error, want []int) {
	t.Helper()
	wantTold(t, what, err, api.OK)
	if !slices.Equal(got, want) {
		t.Errorf("%v = %v, want %v", what, got, want)
	}
}

// wantNoList fails unless a call told this error, and nothing else.
func wantNoList(t *testing.T, what any, got []int, err error, want api.Errno) {
	t.Helper()
	wantTold(t, what, err, want)
	if len(got) != 0 {
		t.Errorf("%v = %v, want none", what, got)
	}
}

// wantWrongOne fails unless what is asked of one commit tells this error.
func wantWrongOne(t *testing.T, l []api.Commit, i int, want api.Errno) {
	t.Helper()
	got, err := dag.Ancestors(l, i)
	wantNoList(t, []any{"Ancestors", i}, got, err, want)
	got, err = dag.Log(l, i)
	wantNoList(t, []any{"Log", i}, got, err, want)
}

// wantWrongTwo fails unless what is asked of two commits tells this error.
func wantWrongTwo(t *testing.T, l []api.Commit, a, b int, want api.Errno) {
	t.Helper()
	got, err := dag.Bases(l, a, b)
	wantNoList(t, []any{"Bases", a, b}, got, err, want)
	is, err := dag.Is(l, a, b)
	wantTold(t, []any{"Is", a, b}, err, want)
	if is {
		t.Errorf("Is(%d, %d) with an error", a, b)
	}
}

// wantHistory fails unless all that is asked of commits is as their parents have it.
func wantHistory(t *testing.T, l []api.Commit) {
	t.Helper()
	wantCheck(t, l, l, 0, api.OK)
	is := kin(l)
	for a := range l {
		want := ancestorsBy(is, a)
		got, err := dag.Ancestors(l, a)
		wantList(t, []any{"Ancestors", l, a}, got, err, want)
		slices.Reverse(want)
		got, err = dag.Log(l, a)
		wantList(t, []any{"Log", l, a}, got, err, want)
		for b := range l {
			got, err = dag.Bases(l, a, b)
			wantList(t, []any{"Bases", l, a, b}, got, err, basesBy(is, a, b))
			one, err := dag.Is(l, a, b)
			wantTold(t, []any{"Is", l, a, b}, err, api.OK)
			if one != is[a][b] {
				t.Errorf("Is(%v, %d, %d) = %v", l, a, b, one)
			}
		}
	}
}
