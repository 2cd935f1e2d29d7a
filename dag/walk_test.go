package dag_test

import (
	"slices"
	"testing"

	"strataweb/api"
	"strataweb/dag"
)

// All that up to five commits may be, and all that may be asked of them.
func TestAllSmall(t *testing.T) {
	for n := range 6 {
		for _, l := range histories(n) {
			wantHistory(t, l)
		}
	}
}

// As written out by hand: what is held against itself alone is held against nothing.
func TestByHand(t *testing.T) {
	// 1 and 2 came of 0, and 3, 4 and 5 each join these two; 6 is alone.
	l := []api.Commit{of(), of(0), of(0), of(1, 2), of(2, 1), of(1, 2), of()}
	got, err := dag.Ancestors(l, 3)
	wantList(t, "Ancestors", got, err, []int{0, 1, 2, 3})
	got, err = dag.Ancestors(l, 0)
	wantList(t, "Ancestors", got, err, []int{0})
	got, err = dag.Log(l, 5)
	wantList(t, "Log", got, err, []int{5, 2, 1, 0})
	for _, x := range []struct {
		a, b int
		want []int
	}{
		{4, 5, []int{1, 2}}, {5, 4, []int{1, 2}}, {3, 4, []int{1, 2}},
		{1, 2, []int{0}}, {3, 1, []int{1}}, {1, 3, []int{1}}, {3, 3, []int{3}}, {0, 5, []int{0}},
		{6, 5, nil}, {5, 6, nil}, {6, 6, []int{6}},
	} {
		got, err = dag.Bases(l, x.a, x.b)
		wantList(t, []int{x.a, x.b}, got, err, x.want)
	}
	for _, x := range []struct {
		a, b int
		want bool
	}{{0, 5, true}, {5, 0, false}, {3, 3, true}, {3, 4, false}, {1, 2, false}, {2, 4, true}, {6, 0, false}, {0, 6, false}} {
		is, err := dag.Is(l, x.a, x.b)
		wantTold(t, x, err, api.OK)
		if is != x.want {
			t.Errorf("Is(%d, %d) = %v", x.a, x.b, is)
		}
	}
}

// A base may be an ancestor's ancestor by one way, and a parent by another: it is none then.
func TestBasesByTwoWays(t *testing.T) {
	l := []api.Commit{of(), of(0), of(1), of(2, 0), of(2, 0), of(0, 4)}
	got, err := dag.Bases(l, 3, 4)
	wantList(t, "Bases", got, err, []int{2})
	got, err = dag.Bases(l, 3, 5)
	wantList(t, "Bases", got, err, []int{2})
}

// As many commits as may be: one behind the other, each of the two ahead of it (whose ways are too many to go each), and all apart.
func TestMost(t *testing.T) {
	wantHistory(t, line(api.MaxCommits))
	var woven, apart, halves []api.Commit
	for i := range api.MaxCommits {
		apart = append(apart, of())
		if i < 2 {
			woven, halves = append(woven, of()), append(halves, of())
			continue
		}
		woven, halves = append(woven, of(i-1, i-2)), append(halves, of(i-2))
	}
	wantHistory(t, woven)
	wantHistory(t, apart)
	wantHistory(t, halves)
}

// Two commits may have very many bases.
func TestManyBases(t *testing.T) {
	n := 20
	l := make([]api.Commit, n)
	for i := range l {
		l[i] = of()
	}
	var want []int
	for i := range n {
		want = append(want, i)
	}
	for range 2 {
		last := 0
		for i := 1; i < n; i++ {
			l = append(l, of(i, last))
			last = len(l) - 1
		}
	}
	got, err := dag.Bases(l, 2*n-2, 3*n-3)
	wantList(t, "Bases", got, err, want)
	wantHistory(t, l)
}

func TestNoSuchCommit(t *testing.T) {
	for _, n := range []int{0, 1, 2, 5, api.MaxCommits} {
		l := line(n)
		for _, i := range strange(n) {
			wantWrongOne(t, l, i, api.ErrRange)
			wantWrongTwo(t, l, i, i, api.ErrRange)
			for a := range n {
				wantWrongTwo(t, l, a, i, api.ErrRange)
				wantWrongTwo(t, l, i, a, api.ErrRange)
			}
		}
	}
}

// What is wrong with the commits is told ahead of what is wrong with a number, also where it is none of those that are asked for.
func TestWrongCommits(t *testing.T) {
	for _, f := range faults() {
		for at := 3; at < 6; at++ {
			l := line(6)
			f.make(&l[at])
			for _, i := range append(strange(6), 0, 1, 5) {
				wantWrongOne(t, l, i, f.want)
				wantWrongTwo(t, l, i, 0, f.want)
				wantWrongTwo(t, l, 0, i, f.want)
				wantWrongTwo(t, l, i, i, f.want)
			}
		}
	}
	l := line(api.MaxCommits + 1)
	for _, i := range []int{-1, 0, api.MaxCommits, api.MaxCommits + 1} {
		wantWrongOne(t, l, i, api.ErrFull)
		wantWrongTwo(t, l, 0, i, api.ErrFull)
	}
}

// What is handed in is as it was, and what lies behind its length plays no part.
func TestLeavesTheCommits(t *testing.T) {
	parents := []int{1, 0, 99, -1}
	room := []api.Commit{of(), of(parents[1:2]...), of(parents[:2]...), of(7, 7, 7), {}}
	l := room[:3]
	wantHistory(t, l)
	if !slices.Equal(parents, []int{1, 0, 99, -1}) {
		t.Errorf("parents are %v", parents)
	}
	if !slices.Equal(room[3].Parents, []int{7, 7, 7}) || room[4].Parents != nil || room[4].Layer != 0 {
		t.Errorf("what lies behind is %v", room[3:])
	}
	wantWrongOne(t, l, 3, api.ErrRange)
}

// What comes out is the caller's: written over, it changes no later answer.
func TestAnswersAreFresh(t *testing.T) {
	l := []api.Commit{of(), of(0), of(1, 0), of(2, 1)}
	for range 2 {
		x, err := dag.Ancestors(l, 3)
		wantList(t, "Ancestors", x, err, []int{0, 1, 2, 3})
		y, err := dag.Log(l, 3)
		wantList(t, "Log", y, err, []int{3, 2, 1, 0})
		z, err := dag.Bases(l, 3, 2)
		wantList(t, "Bases", z, err, []int{2})
		for _, out := range [][]int{x, y, z} {
			for i := range out {
				out[i] = 77
			}
			_ = append(out, 78)
		}
	}
	wantHistory(t, l)
}

// FuzzWalk holds what is told of commits against what their parents have, also where a parent is wrong.
func FuzzWalk(f *testing.F) {
	f.Add([]byte{})
	f.Add([]byte{0, 0, 1, 1, 1, 1, 2, 3, 3, 2, 5, 4})
	f.Add([]byte{0, 0, 0, 0, 1, 2, 2, 1, 4, 3, 3, 4, 255, 1})
	f.Fuzz(func(t *testing.T, b []byte) {
		// One more than may be is enough to see that it is told.
		b = b[:min(len(b), 2*(api.MaxCommits+1))]
		var l []api.Commit
		for ; len(b) >= 2; b = b[2:] {
			l = append(l, woven(len(l), b[0], b[1]))
		}
		at, want := firstWrong(l)
		if want == api.OK {
			wantHistory(t, l)
			return
		}
		wantCheck(t, l, l, at, want)
		wantWrongOne(t, l, 0, want)
		wantWrongTwo(t, l, 0, -1, want)
	})
}

// woven makes a commit whose parents go by two bytes: 0 is none, and others count back from its own number.
func woven(number int, x, y byte) api.Commit {
	c := of()
	for _, back := range []byte{x, y} {
		if back != 0 {
			c.Parents = append(c.Parents, number-int(back))
		}
	}
	return c
}

// firstWrong tells the first commit whose parents are wrong.
func firstWrong(l []api.Commit) (int, api.Errno) {
	if len(l) > api.MaxCommits {
		return 0, api.ErrFull
	}
	for i, c := range l {
		switch {
		case len(c.Parents) > 0 && slices.Min(c.Parents) < 0:
			return i, api.ErrRange
		case len(c.Parents) == 2 && c.Parents[0] == c.Parents[1]:
			return i, api.ErrClash
		}
	}
	return 0, api.OK
}
