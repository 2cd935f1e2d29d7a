package dag_test

import (
	"math"
	"slices"
	"strings"
	"testing"

	"strataweb/api"
	"strataweb/dag"
	"strataweb/plain"
)

func TestCheck(t *testing.T) {
	wantCheck(t, "nil", nil, 0, api.OK)
	wantCheck(t, "empty", []api.Commit{}, 0, api.OK)
	for _, l := range histories(4) {
		wantCheck(t, l, l, 0, api.OK)
	}
	wantCheck(t, "several without parents", []api.Commit{of(), of(), of(), of(1), of(3, 2)}, 0, api.OK)
}

// More than may be is told at 0, whatever else is wrong, and wherever.
func TestCheckMostCommits(t *testing.T) {
	wantCheck(t, "most", line(api.MaxCommits), 0, api.OK)
	for _, n := range []int{api.MaxCommits + 1, api.MaxCommits + 2, 1_000_000} {
		l := line(n)
		wantCheck(t, n, l, 0, api.ErrFull)
		for _, at := range []int{0, 1, 7, n - 1} {
			ill := slices.Clone(l)
			ill[at] = api.Commit{Parents: []int{at, at}, Message: "\n"}
			wantCheck(t, n, ill, 0, api.ErrFull)
		}
		wantCheck(t, n, make([]api.Commit, n), 0, api.ErrFull)
	}
}

func TestCheckParents(t *testing.T) {
	for _, n := range []int{0, 1, 2, 3, 30, api.MaxCommits - 1} {
		l := line(n)
		for p := range n {
			wantCheck(t, p, append(l, of(p)), 0, api.OK)
		}
		for _, p := range strange(n) {
			wantCheck(t, []int{n, p}, append(l, of(p)), n, api.ErrRange)
			wantCheck(t, []int{n, p, p}, append(l, of(p, p)), n, api.ErrRange)
			wantCheck(t, []int{n, 0, p}, append(l, of(0, p)), n, api.ErrRange)
			wantCheck(t, []int{n, p, 0}, append(l, of(p, 0)), n, api.ErrRange)
			wantCheck(t, []int{n, p, 0, 0}, append(l, of(p, 0, 0)), n, api.ErrFull)
		}
		for p := range n {
			for q := range n {
				want, at := api.OK, 0
				if p == q {
					want, at = api.ErrClash, n
				}
				wantCheck(t, []int{n, p, q}, append(l, of(p, q)), at, want)
			}
		}
	}
}

func TestCheckManyParents(t *testing.T) {
	for n := range 6 {
		l := append(line(6), of([]int{5, 3, 1, 0, 2, 4}[:n]...))
		if n <= 2 {
			wantCheck(t, n, l, 0, api.OK)
			continue
		}
		wantCheck(t, n, l, 6, api.ErrFull)
	}
	wantCheck(t, "of the first one", []api.Commit{of(make([]int, 3)...)}, 0, api.ErrFull)
	wantCheck(t, "very many", append(line(2), of(make([]int, 1_000_000)...)), 2, api.ErrFull)
}

// saying makes a commit without parents that has this Message.
func saying(message string) api.Commit {
	return api.Commit{Layer: 1, Message: message}
}

func TestCheckMessage(t *testing.T) {
	for _, m := range []string{"", " ", "~", "good day", `"\`, strings.Repeat("a", api.MaxText), strings.Repeat(" ", api.MaxText)} {
		wantCheck(t, m, []api.Commit{of(), saying(m)}, 0, api.OK)
	}
	for _, m := range []string{strings.Repeat("a", api.MaxText+1), strings.Repeat("\n", api.MaxText+1), strings.Repeat("a", 1_000_000)} {
		wantCheck(t, len(m), []api.Commit{of(), saying(m)}, 1, api.ErrFull)
	}
	for _, m := range []string{"é", "e\xcc\x81", "\xef\xbf\xbd", "\x00", strings.Repeat("\xff", api.MaxText)} {
		wantCheck(t, m, []api.Commit{of(), saying(m)}, 1, api.ErrSyntax)
	}
	// How long it is goes by bytes: fewer runes do not help.
	wantCheck(t, "runes", []api.Commit{of(), saying(strings.Repeat("é", api.MaxText/2+1))}, 1, api.ErrFull)
}

// Every byte, at the beginning, in between and at the end.
func TestCheckMessageBytes(t *testing.T) {
	for n := range 256 {
		b := string([]byte{byte(n)})
		for _, m := range []string{b, b + "a", "a" + b, "a" + b + "a", strings.Repeat("a", api.MaxText-1) + b} {
			want, at := api.OK, 0
			if n < 32 || n > 126 {
				want, at = api.ErrSyntax, 1
			}
			wantCheck(t, n, []api.Commit{of(), saying(m)}, at, want)
		}
	}
}

func TestCheckLayer(t *testing.T) {
	for n := 1; n <= api.MaxObjects; n++ {
		wantCheck(t, n, []api.Commit{of(), {Layer: n}}, 0, api.OK)
	}
	for _, n := range []int{0, -1, -300, api.MaxObjects + 1, 1<<32 + 1, math.MaxInt, math.MinInt, math.MinInt + 1} {
		wantCheck(t, n, []api.Commit{of(), {Layer: n}}, 1, api.ErrRange)
	}
	wantCheck(t, "alike", []api.Commit{of(), of(), of(0), of(0)}, 0, api.OK)
}

// fault makes a commit wrong, and is what Check tells of it.
type fault struct {
	want api.Errno
	make func(c *api.Commit)
}

// faults stand in the order in which they are told. Parents that are wrong go together: each of these is told whichever comes behind it.
func faults() []fault {
	return []fault{
		{api.ErrFull, func(c *api.Commit) { c.Parents = []int{0, 1, 2} }},
		{api.ErrFull, func(c *api.Commit) { c.Message = strings.Repeat("\t", api.MaxText+1) }},
		{api.ErrRange, func(c *api.Commit) { c.Parents = []int{-1, -1} }},
		{api.ErrClash, func(c *api.Commit) { c.Parents = []int{1, 1} }},
		{api.ErrSyntax, func(c *api.Commit) { c.Message = "a\nb" }},
		{api.ErrRange, func(c *api.Commit) { c.Layer = 0 }},
	}
}

// Of two that are wrong with one commit the one that the document names first is told.
func TestCheckOrderOfFaults(t *testing.T) {
	all := faults()
	for i, first := range all {
		for _, second := range all[i:] {
			c := of(0)
			second.make(&c)
			first.make(&c)
			wantCheck(t, c, append(line(3), c), 3, first.want)
		}
	}
}

// Of two that are wrong the first is told, whatever is wrong with the second.
func TestCheckFirstCommit(t *testing.T) {
	for _, first := range faults() {
		for _, second := range faults() {
			for at := 3; at < 7; at++ {
				for next := at + 1; next < 8; next++ {
					l := line(8)
					first.make(&l[at])
					second.make(&l[next])
					wantCheck(t, []int{at, next}, l, at, first.want)
				}
			}
		}
	}
}

// The first of all has no parent that may be.
func TestCheckFirstOfAll(t *testing.T) {
	for _, p := range strange(0) {
		wantCheck(t, p, []api.Commit{of(p), of()}, 0, api.ErrRange)
	}
	wantCheck(t, "Layer", []api.Commit{{}}, 0, api.ErrRange)
	wantCheck(t, "Message", []api.Commit{saying("\x7f")}, 0, api.ErrSyntax)
	wantCheck(t, "full", []api.Commit{saying(strings.Repeat("a", api.MaxText+1))}, 0, api.ErrFull)
}

// CheckOne tells of a commit with a number what Check tells of it behind so many others.
func TestCheckOne(t *testing.T) {
	for _, n := range []int{0, 1, 2, 3, 30, api.MaxCommits - 1} {
		for _, p := range append(strange(n), 0, 1, n-1) {
			for _, q := range []int{-1, 0, 1, n} {
				for _, c := range []api.Commit{of(), of(p), of(p, q), of(p, q, 0), saying("\n"), {Parents: []int{p}}} {
					_, want := dag.Check(append(line(n), c))
					wantTold(t, c, dag.CheckOne(c, n), plain.Told(want))
				}
			}
		}
	}
	// How many others there are does not matter to it.
	wantTold(t, "beyond", dag.CheckOne(of(1000), 1001), api.OK)
	for _, first := range faults() {
		c := of(0)
		first.make(&c)
		wantTold(t, c, dag.CheckOne(c, 3), first.want)
	}
}
