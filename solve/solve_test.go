package solve_test

import (
	"slices"
	"strconv"
	"strings"
	"testing"

	"strataweb/api"
	"strataweb/solve"
	"strataweb/triple"
)

func TestSolve(t *testing.T) {
	l := list("alb", "alc", "blc", "bld", "cla", "dtd", "dte", "lla")
	wantSet(t, l)
	for _, c := range []struct {
		text string
		want [][]api.Term
	}{
		{"select ?x where ?x l a", rows("c", "l")},
		{"select ?x where a l ?x", rows("b", "c")},
		{"select ?x where a ?x b", rows("l")},
		{"select ?x where ?x l z", nil},
		{"select ?x ?y where ?x l ?y", rows("ab", "ac", "bc", "bd", "ca", "la")},
		// The order is that of the variables that are told, not that of the parts.
		{"select ?y ?x where ?x l ?y", rows("ac", "al", "ba", "ca", "cb", "db")},
		// One that stands twice is one term, in a part or in two.
		{"select ?x where ?x ?x ?y", rows("l")},
		{"select ?x where ?x t ?x", rows("d")},
		{"select ?x where ?y ?x ?y", rows("t")},
		{"select ?x where ?x ?x ?x", nil},
		{"select ?x ?z where ?x l ?y and ?y l ?z", rows("aa", "ac", "ad", "ba", "cb", "cc", "lb", "lc")},
		{"select ?x ?y ?z where ?x l ?y and ?y l ?z", rows("abc", "abd", "aca", "bca", "cab", "cac", "lab", "lac")},
		{"select ?x ?y ?z where ?y l ?z and ?x l ?y", rows("abc", "abd", "aca", "bca", "cab", "cac", "lab", "lac")},
		{"select ?x ?y where ?x l ?y and ?y ?x ?z", rows("la", "la")},
		{"select ?x ?y where ?x l ?y and ?y l a", rows("ac", "bc")},
		{"select ?x ?y where ?x l ?y and ?x l d", rows("bc", "bd")},
		{"select ?p where ?p ?p ?x and ?y ?p ?x", rows("l", "l")},
		{"select ?x where ?x l ?y and ?y l ?z and ?z l ?x", rows("a", "b", "c")},
		// A part without a variable is a triple of the set, or not.
		{"select ?x where a l b and ?x l a", rows("c", "l")},
		{"select ?x where ?x l a and a l b", rows("c", "l")},
		{"select ?x where a l a and ?x l a", nil},
		{"select ?x where ?x l a and a l a", nil},
		// A part that is there twice says no more than once.
		{"select ?x where ?x l a and ?x l a and ?x l a", rows("c", "l")},
		// Parts that share no variable go with each other in all ways.
		{"select ?x ?y where ?x l a and d t ?y", rows("cd", "ce", "ld", "le")},
		{"select ?y ?x where ?x l a and d t ?y", rows("dc", "dl", "ec", "el")},
	} {
		q := asking(t, c.text)
		wantSolved(t, l, q, c.want)
		wantCount(t, l, q, len(c.want))
		wantModel(t, l, q)
		wantSolved(t, nil, q, nil)
		wantSolved(t, []api.Triple{}, q, nil)
		wantCount(t, nil, q, 0)
	}
}

// Each comes as often as there are answers, also by variables that are not told; if Distinct, once.
func TestSolveHowOften(t *testing.T) {
	l := list("alb", "alc", "ald", "blc", "clc")
	for _, c := range []struct {
		text       string
		want, once [][]api.Term
	}{
		{"select ?x where ?x l ?y", rows("a", "a", "a", "b", "c"), rows("a", "b", "c")},
		{"select ?y where ?x l ?y", rows("b", "c", "c", "c", "d"), rows("b", "c", "d")},
		{"select ?p where ?x ?p ?y", rows("l", "l", "l", "l", "l"), rows("l")},
		{"select ?p where ?x ?p ?y and ?v ?p ?w", rows(strings.Split(strings.Repeat("l", 25), "")...), rows("l")},
		{"select ?x ?y where ?x l ?y", rows("ab", "ac", "ad", "bc", "cc"), rows("ab", "ac", "ad", "bc", "cc")},
		{"select ?y where ?x l ?y order ?y down", rows("d", "c", "c", "c", "b"), rows("d", "c", "b")},
		{"select ?x ?p where ?x ?p ?y order ?p", rows("al", "al", "al", "bl", "cl"), rows("al", "bl", "cl")},
		{"select ?x ?p where ?x ?p ?y order ?p down", rows("al", "al", "al", "bl", "cl"), rows("al", "bl", "cl")},
		// The limit counts those that are left then.
		{"select ?x where ?x l ?y limit 2", rows("a", "a"), rows("a", "b")},
		{"select ?x where ?x l ?y order ?x down limit 3", rows("c", "b", "a"), rows("c", "b", "a")},
		{"select ?x where ?x l ?y order ?x down limit 4", rows("c", "b", "a", "a"), rows("c", "b", "a")},
	} {
		q := asking(t, c.text)
		wantSolved(t, l, q, c.want)
		wantSolved(t, l, distinct(q), c.once)
	}
}

func TestSolveOrder(t *testing.T) {
	l := list("alb", "alc", "blc", "bma", "clb")
	for _, c := range []struct {
		order string
		want  [][]api.Term
	}{
		{"", rows("alb", "alc", "blc", "bma", "clb")},
		{" order ?x", rows("alb", "alc", "blc", "bma", "clb")},
		// Those that are equal there stay as they are sorted, whichever way round.
		{" order ?x down", rows("clb", "blc", "bma", "alb", "alc")},
		{" order ?p", rows("alb", "alc", "blc", "clb", "bma")},
		{" order ?p down", rows("bma", "alb", "alc", "blc", "clb")},
		{" order ?y", rows("bma", "alb", "clb", "alc", "blc")},
		{" order ?y down", rows("alc", "blc", "alb", "clb", "bma")},
	} {
		q := asking(t, "select ?x ?p ?y where ?x ?p ?y"+c.order)
		for n := range 8 {
			wantSolved(t, l, limited(q, n), c.want[:min(n, len(c.want))])
			wantSolved(t, l, distinct(limited(q, n)), c.want[:min(n, len(c.want))])
			wantCount(t, l, distinct(limited(q, n)), len(c.want))
		}
		wantSolved(t, l, q, c.want)
		wantSolved(t, l, limited(q, api.MaxAnswers), c.want)
	}
}

// Terms are ordered by Kind, then S, then Lang, and are one just if all three are.
func TestSolveTerms(t *testing.T) {
	a, p, q := named("a"), named("p"), named("q")
	l := []api.Triple{
		said(a, p, named("b")), said(a, p, named("c")), said(a, p, anon("b")), said(a, p, text("b", "")), said(a, p, text("b", "de")), said(a, p, text("b", "en")), said(a, p, text("ba", "")),
		said(a, q, named("b")), said(a, q, anon("b")), said(a, q, text("b", "de")), said(named("b"), q, a), said(anon("b"), p, a),
	}
	wantSet(t, l)
	row := func(terms ...api.Term) (out [][]api.Term) {
		for _, x := range terms {
			out = append(out, []api.Term{x})
		}
		return out
	}
	up := row(named("b"), named("c"), anon("b"), text("b", ""), text("b", "de"), text("b", "en"), text("ba", ""))
	down := slices.Clone(up)
	slices.Reverse(down)
	wantSolved(t, l, asking(t, "select ?o where a p ?o"), up)
	wantSolved(t, l, asking(t, "select ?o where a p ?o order ?o"), up)
	wantSolved(t, l, asking(t, "select ?o where a p ?o order ?o down"), down)
	wantSolved(t, l, asking(t, "select ?o where a p ?o and a q ?o"), row(named("b"), anon("b"), text("b", "de")))
	wantSolved(t, l, asking(t, "select ?o where a p ?o and ?o ?v ?w"), row(named("b"), anon("b")))
	wantSolved(t, l, asking(t, "select ?o where ?o q ?w and ?w p ?o"), row(a, named("b")))
	wantSolved(t, l, asking(t, `select ?p where a ?p "b"@de`), row(p, q))
	// Where no triple has such a term, there is none, and no error.
	wantSolved(t, l, asking(t, `select ?p where "b"@de ?p a`), nil)
	wantSolved(t, l, asking(t, `select ?o where a _b ?o`), nil)
	wantSolved(t, l, asking(t, `select ?o where a p ?o and a ?o ?x`), nil)
}

// All small sets and many small queries are held against what comes of trying all.
func TestSolveOfAllSmall(t *testing.T) {
	a, b := named("a"), named("b")
	all := []api.Triple{said(a, a, a), said(a, a, b), said(a, b, text("a", "")), said(b, a, a), said(b, b, b), said(anon("a"), a, a)}
	wantSet(t, all)
	parts := []string{"?x a ?y", "?y ?x ?z", "?z ?z ?y", "a ?x a", "?x ?y ?x", "b b b"}
	queries := []api.Query{}
	for _, one := range parts {
		for _, two := range parts {
			for _, told := range []string{"?x", "?y", "?y ?x"} {
				for _, end := range []string{"", " limit 2"} {
					text := "select " + told + " where ?x ?y ?w and " + one + " and " + two + end
					q := asking(t, text)
					queries = append(queries, q, distinct(q))
				}
				q := asking(t, "select "+told+" where "+one+" and "+two+" and ?x ?v ?y order "+told[:2]+" down")
				queries = append(queries, q, distinct(q))
			}
		}
	}
	for bits := range 1 << len(all) {
		var l []api.Triple
		for i, x := range all {
			if bits>>i&1 == 1 {
				l = append(l, x)
			}
		}
		for i, q := range queries {
			// All would take long: each set has its share of them.
			if (i+bits)%7 == 0 || bits == 1<<len(all)-1 {
				wantModel(t, l, q)
			}
		}
	}
}

// stars makes a set of so many triples of each of some S: a, b, c and so on.
func stars(sizes ...int) []api.Triple {
	var l []api.Triple
	for i, n := range sizes {
		l = append(l, span(string(rune('a'+i)), "p", n)...)
	}
	return l
}

// sized tells of how many answers there are: so many, or too many.
func sized(t *testing.T, l []api.Triple, q api.Query, size int) {
	t.Helper()
	if size < 0 {
		wantUnsolved(t, l, q, api.ErrFull)
		wantUnsolved(t, l, distinct(q), api.ErrFull)
		wantUnsolved(t, l, limited(q, 0), api.ErrFull)
		wantUnsolved(t, l, distinct(limited(q, 1)), api.ErrFull)
		return
	}
	wantCount(t, l, q, size)
	wantCount(t, l, distinct(q), size)
	wantCount(t, l, limited(q, 0), size)
	for _, n := range []int{0, 1, api.MaxAnswers - 1, api.MaxAnswers} {
		got, err := solve.Solve(l, limited(q, n))
		wantTold(t, q, err, api.OK)
		if len(got) != min(n, size) {
			t.Errorf("Solve(%v): %d answers, want %d", q, len(got), min(n, size))
		}
	}
	got, err := solve.Solve(l, q)
	wantTold(t, q, err, api.OK)
	if len(got) != size {
		t.Errorf("Solve(%v): %d answers, want %d", q, len(got), size)
	}
}

// There may be as many answers as MaxAnswers to the first part, to the first two, and so on, and no more.
func TestSolveFull(t *testing.T) {
	const full = -1
	for _, c := range []struct {
		sizes []int
		parts string
		size  int
	}{
		{[]int{api.MaxSet}, "?v p ?x", api.MaxSet},
		{[]int{20, 25}, "a p ?x and b p ?y", api.MaxAnswers},
		{[]int{3, 167}, "a p ?x and b p ?y", full},
		{[]int{167, 3}, "a p ?x and b p ?y", full},
		{[]int{2, 167}, "a p ?x and b p ?y", 334},
		{[]int{22}, "a p ?x and a p ?y", 484},
		{[]int{23}, "a p ?x and a p ?y", full},
		{[]int{api.MaxSet}, "a p ?x and a p ?y", full},
		{[]int{api.MaxSet}, "a p ?x and a p ?x", api.MaxSet},
		{[]int{5, 10, 10}, "a p ?x and b p ?y and c p ?z", api.MaxAnswers},
		{[]int{3, 167, 1}, "a p ?x and c p ?z and b p ?y", full},
		{[]int{20, 25, 2}, "a p ?x and b p ?y and c p ?z", full},
		// A later part that leaves few of them, or none, does not make up for it; an earlier one keeps it from coming to that.
		{[]int{3, 167, 1}, "a p ?x and b p ?y and c p ?x", full},
		{[]int{3, 167, 1}, "a p ?x and c p ?x and b p ?y", 167},
		{[]int{3, 167, 1}, "a p ?x and b p ?y and z p ?x", full},
		{[]int{3, 167, 1}, "z p ?x and a p ?x and b p ?y", 0},
		{[]int{3, 167, 1}, "a p ?x and b p ?y and z z z", full},
		{[]int{3, 167, 1}, "z z z and a p ?x and b p ?y", 0},
		{[]int{20, 25, 1}, "a p ?x and b p ?y and c p ?x", 25},
		{[]int{20, 25, 1}, "a p ?x and b p ?y and z p ?x", 0},
		{[]int{20, 25, 2}, "a p ?x and b p ?y and c p ?x and c p ?z", 100},
		{[]int{20, 25, 10}, "a p ?x and b p ?y and c p ?x and c p ?y", 100},
		{[]int{20, 25, 10, 5}, "a p ?x and b p ?y and c p ?x and c p ?y and d p ?z", api.MaxAnswers},
		{[]int{20, 25, 10, 6}, "a p ?x and b p ?y and c p ?x and c p ?y and d p ?z", full},
		{[]int{20, 25, 10, 6}, "a p ?x and b p ?y and c p ?x and c p ?y and d p ?z and z p ?z", full},
		{[]int{20, 25, 10, 6}, "a p ?x and b p ?y and c p ?x and c p ?y and z p ?z and d p ?z", 0},
		{[]int{2, 2, 2, 2, 2, 2}, "a p ?x and b p ?y and c p ?z and d p ?u and e p ?v and f p ?w", 64},
		{[]int{2, 2, 2, 2, 2, 16}, "a p ?x and b p ?y and c p ?z and d p ?u and e p ?v and f p ?w", full},
		{[]int{5, 5, 5, 2, 2, 1}, "a p ?x and b p ?y and c p ?z and d p ?u and e p ?v and f p ?w", api.MaxAnswers},
		// Variables that are not told count as well as those that are.
		{[]int{1, 1, 1, 1, 1, 1, 1, 1}, "?x p ?y and ?z p ?y and ?u p ?y", full},
		{[]int{1, 1, 1, 1, 1, 1, 1}, "?x p ?y and ?z p ?y and ?u p ?y", 343},
	} {
		l := stars(c.sizes...)
		wantSet(t, l)
		names := varsOf(t, asking(t, "select ?x where "+c.parts).Parts)
		sized(t, l, asking(t, "select ?"+strings.Join(names, " ?")+" where "+c.parts), c.size)
		q := asking(t, "select ?x where "+c.parts)
		if c.size < 0 {
			sized(t, l, q, c.size)
		} else {
			wantCount(t, l, q, c.size)
		}
	}
}

func TestSolveManyVariables(t *testing.T) {
	l := list("apb", "bpc", "cpd", "dpe", "epf", "fpg", "gph")
	wantSolved(t, l, asking(t, "select ?a ?b ?c ?d ?e ?f ?g ?p where ?a ?p ?b and ?b ?p ?c and ?c ?p ?d and ?d ?p ?e and ?e ?p ?f and ?f ?p ?g"), rows("abcdefgp", "bcdefghp"))
	wantSolved(t, l, asking(t, "select ?abcdefghij where a p ?abcdefghij and ?abcdefghij p ?abcdefghi"), rows("b"))
	wantSolved(t, l, asking(t, "select ?p ?a where a ?p b and b ?p c and c ?p d and ?a ?p e order ?a"), rows("pd"))
}

// permuted calls with the lists that have these in another order.
func permuted(parts []api.Pattern, call func(parts []api.Pattern)) {
	var next func(n int)
	next = func(n int) {
		if n == len(parts) {
			call(parts)
			return
		}
		for i := n; i < len(parts); i++ {
			parts[n], parts[i] = parts[i], parts[n]
			next(n + 1)
			parts[n], parts[i] = parts[i], parts[n]
		}
	}
	next(0)
}

// An answer answers in whichever order it is sought, where that does not come to too many.
func TestSolveInAnyOrder(t *testing.T) {
	l := list("alb", "alc", "blc", "bld", "cla", "dld", "mtl")
	for _, s := range []string{
		"select ?x ?y ?z where ?x l ?y and ?y l ?z and ?z l ?x",
		"select ?x ?z where ?x l ?y and ?y ?p ?z and m t ?p and a l c",
		"select distinct ?z ?x where ?x l ?y and ?y l ?z and ?x l ?x order ?z down limit 3",
	} {
		q := asking(t, s)
		want, err := solve.Solve(l, q)
		wantTold(t, s, err, api.OK)
		if len(want) == 0 {
			t.Errorf("%q has no answer", s)
		}
		n, err := solve.Naive(l, q)
		wantTold(t, s, err, api.OK)
		permuted(slices.Clone(q.Parts), func(parts []api.Pattern) {
			q.Parts = parts
			wantSolved(t, l, q, want)
			wantCount(t, l, q, n)
		})
	}
}

// What is wrong with the set is told first, then what is wrong with the query, then that there are too many.
func TestSolveWrong(t *testing.T) {
	right := asking(t, "select ?x where ?x p ?y")
	full := asking(t, "select ?x where ?x p ?y and ?z p ?w")
	large := stars(api.MaxSet)
	wantUnsolved(t, large, full, api.ErrFull)
	for _, bad := range noSets() {
		wantUnsolved(t, bad.l, right, bad.want)
		wantUnsolved(t, bad.l, full, bad.want)
		wantUnsolved(t, bad.l, limited(right, 0), bad.want)
		for _, none := range noQueries() {
			wantUnsolved(t, bad.l, none.q, bad.want)
		}
	}
	for _, none := range noQueries() {
		for _, l := range [][]api.Triple{nil, list("apb"), large} {
			wantUnsolved(t, l, none.q, none.want)
		}
	}
	none := full
	none.Vars = vars("xx")
	wantUnsolved(t, large, none, api.ErrClash)
	wantUnsolved(t, append(slices.Clone(large[:100]), large[0]), none, api.ErrState)
}

// What lies behind a list's length is neither read nor written.
func TestSolveNothingBehindTheLength(t *testing.T) {
	l := list("apb", "bpc", "aaa", "aaa")
	q := asking(t, "select ?x ?y where ?x p ?y and ?y p ?z")
	told, parts := slices.Clone(q.Vars), slices.Clone(q.Parts)
	q.Vars = append(q.Vars, "x", "w")[:2]
	q.Parts = append(q.Parts, part("z z z"), api.Pattern{})[:2]
	wantSolved(t, l[:2], q, rows("ab"))
	wantCount(t, l[:2], q, 1)
	if !slices.Equal(l, list("apb", "bpc", "aaa", "aaa")) {
		t.Errorf("written into: %v", l)
	}
	if v := q.Vars[:4]; !slices.Equal(v, append(told, "x", "w")) {
		t.Errorf("written into: %v", v)
	}
	if p := q.Parts[:4]; !slices.Equal(p, append(parts, part("z z z"), api.Pattern{})) {
		t.Errorf("written into: %v", p)
	}
}

// No two answers share memory: what is written into one, or behind it, is in no other.
func TestSolveMemory(t *testing.T) {
	l := stars(3, 4, 5)
	q := asking(t, "select ?x ?y where ?v p ?x and ?v p ?y")
	got, err := solve.Solve(l, q)
	wantTold(t, q, err, api.OK)
	again, err := solve.Solve(l, q)
	wantTold(t, q, err, api.OK)
	lists := slices.Concat(got, again)
	for i, row := range lists {
		for j := range row[:cap(row)] {
			row[:cap(row)][j] = named("n" + strconv.Itoa(i))
		}
	}
	for i, row := range lists {
		for _, x := range row {
			if x != named("n"+strconv.Itoa(i)) {
				t.Fatalf("answer %d was written into: %v", i, row)
			}
		}
	}
	if len(got) != 50 {
		t.Errorf("%d answers", len(got))
	}
}

// What is answered hangs on nothing but the arguments.
func TestSolveAgain(t *testing.T) {
	l := stars(4, 5, 6)
	q := asking(t, "select ?v ?x where ?v ?p ?x and ?w ?p ?x order ?x down")
	want, err := solve.Solve(l, q)
	wantTold(t, q, err, api.OK)
	for range 20 {
		wantSolved(t, l, q, want)
	}
}

func FuzzSolve(f *testing.F) {
	f.Add([]byte{}, []byte{}, false, false, 0, -1)
	f.Add([]byte{0, 1, 2, 3, 4, 5, 6, 7}, []byte{0, 1, 2, 2, 5, 1}, true, true, 1, 3)
	f.Add([]byte{5, 1, 9, 30}, []byte{3, 3, 3, 0, 1, 0, 7, 6, 4}, true, false, 2, 500)
	terms := []api.Term{named("a"), named("b"), anon("a"), text("a", ""), text("a", "en")}
	slots := []api.Slot{free("x"), free("y"), free("z"), free("w")}
	for _, x := range terms {
		slots = append(slots, just(x))
	}
	f.Fuzz(func(t *testing.T, picks, words []byte, isDistinct, down bool, order, limit int) {
		var l []api.Triple
		for _, n := range picks[:min(len(picks), 30)] {
			l = append(l, said(terms[n%3], terms[n/3%2], terms[n/6%5]))
		}
		l, err := triple.Sort(l)
		wantTold(t, l, err, api.OK)
		q := api.Query{Distinct: isDistinct, Limit: limit}
		for ; len(words) >= 3 && len(q.Parts) < 4; words = words[3:] {
			q.Parts = append(q.Parts, shape(slots[words[0]%9], slots[words[1]%9], slots[words[2]%9]))
		}
		names := varsOf(t, q.Parts)
		if len(names) == 0 || limit < -1 || limit > api.MaxAnswers {
			return
		}
		q.Vars = names[max(0, len(names)-2):]
		slices.Reverse(q.Vars)
		if order > 0 {
			q.Order, q.Down = q.Vars[order%len(q.Vars)], down
		}
		wantModel(t, l, q)
	})
}
