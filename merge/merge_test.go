package merge_test

import (
	"slices"
	"testing"

	"strataweb/api"
	"strataweb/merge"
)

// met is what comes of two sides of a base, if they meet.
type met struct{ base, a, b, want []api.Triple }

// mets are sides that meet, and so whichever is preferred.
func mets() []met {
	return []met{
		{},
		{base: []api.Triple{}, a: []api.Triple{}, b: []api.Triple{}},
		// Nothing changed.
		{list("abc"), list("abc"), list("abc"), list("abc")},
		// One side alone changed: one more, one less, another one, all.
		{list("abc"), list("abc", "abd"), list("abc"), list("abc", "abd")},
		{list("abc", "abd"), list("abd"), list("abc", "abd"), list("abd")},
		{list("abc"), list("abd"), list("abc"), list("abd")},
		{list("abc"), nil, list("abc"), nil},
		{nil, list("abc"), nil, list("abc")},
		// Both did, alike: what is said twice is said once, and what is gone twice is gone.
		{nil, list("abc"), list("abc"), list("abc")},
		{list("abc"), nil, nil, nil},
		{list("abc"), list("abd"), list("abd"), list("abd")},
		{list("abc", "abd"), list("abd", "abe"), list("abd", "abe"), list("abd", "abe")},
		// Both did, each another pair: one that has the S, or the P, of the other is another.
		{nil, list("abc"), list("acc"), list("abc", "acc")},
		{nil, list("abc"), list("bbc"), list("abc", "bbc")},
		{nil, list("abc"), list("bac"), list("abc", "bac")},
		{list("abc", "bbc"), list("bbc"), list("abc"), nil},
		{list("abc", "bbc"), list("abd", "bbc"), list("abc", "bbd"), list("abd", "bbd")},
		{list("abc", "bbc"), list("bbc", "ccc"), list("abc", "bbd"), list("bbd", "ccc")},
		// All of that at once.
		{
			base: list("aaa", "baa", "caa", "daa", "eaa", "faa"),
			a:    list("aaa", "aab", "bab", "caa", "cab", "eaa", "faa", "gaa", "iaa"),
			b:    list("aaa", "baa", "caa", "cab", "eab", "haa", "iaa"),
			want: list("aaa", "aab", "bab", "caa", "cab", "eab", "gaa", "haa", "iaa"),
		},
	}
}

// wantMet fails unless two sides meet so, either way round, and so whichever is preferred.
func wantMet(t *testing.T, m met) {
	t.Helper()
	for _, s := range [][2][]api.Triple{{m.a, m.b}, {m.b, m.a}} {
		got, clashes, err := merge.Merge(m.base, s[0], s[1])
		wantTold(t, m, err, api.OK)
		wantSet(t, m, got, m.want)
		wantPairs(t, m, clashes, nil)
		for _, first := range []bool{true, false} {
			wantPreferred(t, m.base, s[0], s[1], first, m.want)
		}
	}
}

func TestMerge(t *testing.T) {
	for _, m := range mets() {
		wantMet(t, m)
	}
}

// clash is two sides that do not meet: which pairs, and what comes of them if a is preferred, or b.
type clash struct {
	base, a, b []api.Triple
	which      []api.Clash
	asA, asB   []api.Triple
}

func clashes() []clash {
	a := named("a")
	return []clash{
		// Of one pair, though no triple stands against another one: both added, both took, one of each.
		{nil, list("abc"), list("abd"), pairs("ab"), list("abc"), list("abd")},
		{list("abc", "abd"), list("abd"), list("abc"), pairs("ab"), list("abd"), list("abc")},
		{list("abc"), list("abc", "abd"), nil, pairs("ab"), list("abc", "abd"), nil},
		{list("abc"), list("abd"), nil, pairs("ab"), list("abd"), nil},
		{list("abc"), list("abd"), list("abe"), pairs("ab"), list("abd"), list("abe")},
		// What both did alike within a pair does not make it alike.
		{list("abc"), list("abd"), list("abd", "abe"), pairs("ab"), list("abd"), list("abd", "abe")},
		{nil, []api.Triple{said(a, a, text("a", ""))}, []api.Triple{said(a, a, text("a", "en"))}, pairs("aa"), []api.Triple{said(a, a, text("a", ""))}, []api.Triple{said(a, a, text("a", "en"))}},
		// Several, rising, each taken whole, and those that meet beside them.
		{
			base:  list("aaa", "baa", "caa", "daa", "eaa"),
			a:     list("aab", "bab", "cab", "cac", "daa", "fab"),
			b:     list("aab", "baa", "caa", "cad", "daa", "daz", "eab", "faa", "gaa"),
			which: pairs("ca", "ea", "fa"),
			asA:   list("aab", "bab", "cab", "cac", "daa", "daz", "fab", "gaa"),
			asB:   list("aab", "bab", "caa", "cad", "daa", "daz", "eab", "faa", "gaa"),
		},
		{nil, list("bba", "bbb", "caa"), list("aaa", "bbc", "cab"), pairs("bb", "ca"), list("aaa", "bba", "bbb", "caa"), list("aaa", "bbc", "cab")},
		// By Kind ahead of S, then by P.
		{
			base:  nil,
			a:     []api.Triple{said(named("z"), a, a), said(named("z"), named("b"), a), said(anon("a"), a, a)},
			b:     []api.Triple{said(named("z"), a, anon("a")), said(named("z"), named("b"), anon("a")), said(anon("a"), a, anon("a"))},
			which: []api.Clash{{S: named("z"), P: a}, {S: named("z"), P: named("b")}, {S: anon("a"), P: a}},
			asA:   []api.Triple{said(named("z"), a, a), said(named("z"), named("b"), a), said(anon("a"), a, a)},
			asB:   []api.Triple{said(named("z"), a, anon("a")), said(named("z"), named("b"), anon("a")), said(anon("a"), a, anon("a"))},
		},
	}
}

// wantSides fails unless Merge tells of two sides, either way round, that they changed just these pairs unlike, and no set.
func wantSides(t *testing.T, base, a, b []api.Triple, which []api.Clash) {
	t.Helper()
	for _, s := range [][2][]api.Triple{{a, b}, {b, a}} {
		got, clashes, err := merge.Merge(base, s[0], s[1])
		wantTold(t, "Merge", err, api.ErrSides)
		wantSet(t, "Merge", got, nil)
		wantPairs(t, "Merge", clashes, which)
	}
}

func TestMergeSides(t *testing.T) {
	for _, c := range clashes() {
		wantSides(t, c.base, c.a, c.b, c.which)
	}
	// All pairs of a full set.
	wantSides(t, wide("o", 0, most), wide("u", 0, most), wide("w", 0, most), widePairs(0, most))
	wantSides(t, wide("o", 0, most), wide("u", 0, most), nil, widePairs(0, most))
}

// It is the set that comes out that may not be too great.
func TestMergeMost(t *testing.T) {
	full := span("ap", 0, most)
	for _, m := range []met{
		{full, full, full, full},
		{nil, full, nil, full},
		{nil, full, full, full},
		{full, nil, full, nil},
		{full, span("bp", 0, most), full, span("bp", 0, most)},
		{nil, span("ap", 0, most-1), span("bp", 0, 1), slices.Concat(span("ap", 0, most-1), span("bp", 0, 1))},
		{nil, span("bp", 0, 100), span("ap", 0, most-100), slices.Concat(span("ap", 0, most-100), span("bp", 0, 100))},
		{wide("o", 0, most), wide("o", 1, most), wide("o", 0, most-1), wide("o", 1, most-1)},
		{wide("o", 0, most), wide("o", 1, most+1), wide("o", 0, most), wide("o", 1, most+1)},
		{nil, wide("o", 0, most-1), wide("o", 1, most), wide("o", 0, most)},
		{full, slices.Concat(full[1:], list("baa")), full, slices.Concat(full[1:], list("baa"))},
		// What one side added fits where the other one took as many.
		{wide("o", 0, most), wide("o", 1, most), slices.Concat(list("aaa"), wide("o", 0, most-1)), slices.Concat(list("aaa"), wide("o", 1, most-1))},
	} {
		wantMet(t, m)
	}
}

// wantFull fails unless all calls tell that there would be too many, either way round, and nothing else.
func wantFull(t *testing.T, base, a, b []api.Triple) {
	t.Helper()
	for _, s := range [][2][]api.Triple{{a, b}, {b, a}} {
		wantNoMerge(t, base, s[0], s[1], api.ErrFull)
		for _, first := range []bool{true, false} {
			wantNotPreferred(t, base, s[0], s[1], first, api.ErrFull)
		}
	}
}

func TestMergeFull(t *testing.T) {
	full := span("ap", 0, most)
	wantFull(t, nil, full, span("bp", 0, 1))
	wantFull(t, nil, full, span("bp", 0, most))
	wantFull(t, nil, span("ap", 0, 101), span("bp", 0, 100))
	wantFull(t, nil, wide("o", 0, most), wide("o", 1, most+1))
	wantFull(t, wide("o", 0, 100), wide("o", 0, most), slices.Concat(list("aaa"), wide("o", 0, 100)))
	wantFull(t, span("ap", 0, 1), full, slices.Concat(span("ap", 0, 1), span("bp", 0, 1)))
	// Each side is full, and so is what they have in common with one more.
	wantFull(t, full[1:], slices.Concat(list("aaa"), full[1:]), slices.Concat(full[1:], list("baa")))
}

// Pairs that clash are told ahead of a set that would be too great.
func TestMergeTellsSidesAheadOfFull(t *testing.T) {
	a := slices.Concat(list("aaa"), span("bp", 0, most-1))
	b := slices.Concat(list("aab"), span("cp", 0, most-1))
	wantSides(t, nil, a, b, pairs("aa"))
	wantNotPreferred(t, nil, a, b, true, api.ErrFull)
	wantNotPreferred(t, nil, a, b, false, api.ErrFull)
}

// All sides of all bases of a few triples, held against what the chapter says pair by pair.
func TestMergeAllSmall(t *testing.T) {
	all, groups := universe()
	for base := range 1 << len(all) {
		for a := range 1 << len(all) {
			for b := range 1 << len(all) {
				want, which := merged(groups, base, a, b, true)
				got, clashes, err := merge.Merge(picked(all, base), picked(all, a), picked(all, b))
				what := []int{base, a, b}
				wantPairs(t, what, clashes, which)
				if len(which) > 0 {
					wantTold(t, what, err, api.ErrSides)
					wantSet(t, what, got, nil)
					continue
				}
				wantTold(t, what, err, api.OK)
				wantSet(t, what, got, picked(all, want))
			}
		}
	}
}

// wantNoMerge fails unless Merge tells this error, and nothing else.
func wantNoMerge(t *testing.T, base, a, b []api.Triple, want api.Errno) {
	t.Helper()
	got, clashes, err := merge.Merge(base, a, b)
	wantTold(t, "Merge", err, want)
	wantSet(t, "Merge", got, nil)
	wantPairs(t, "Merge", clashes, nil)
}

// eachFault calls with lists that are not all sets, and what is wrong with the first that is none.
func eachFault(call func(base, a, b []api.Triple, want api.Errno)) {
	// Behind the sets there would be pairs that clash, or too many triples.
	one, two, full := list("abc"), list("abd"), span("ap", 0, most)
	for _, x := range faults() {
		for _, s := range [][2][]api.Triple{{nil, nil}, {one, two}, {one, one}, {full, two}, {full, full}} {
			call(x.l, s[0], s[1], x.want)
			call(s[0], x.l, s[1], x.want)
			call(s[0], s[1], x.l, x.want)
		}
		call(x.l, x.l, x.l, x.want)
		for _, y := range faults() {
			call(x.l, y.l, one, x.want)
			call(x.l, one, y.l, x.want)
			call(one, x.l, y.l, x.want)
			call(x.l, y.l, y.l, x.want)
		}
	}
}

// What is wrong with the base is told ahead of what is wrong with a, and that ahead of b.
func TestMergeFaults(t *testing.T) {
	eachFault(func(base, a, b []api.Triple, want api.Errno) {
		wantNoMerge(t, base, a, b, want)
	})
}

// No call writes into what it was given, reads behind its length, or answers memory of it.
func TestMemory(t *testing.T) {
	base := list("aaa", "baa", "zzz", "aaa")
	a := list("aab", "baa", "zzz", "aaa")
	b := list("aaa", "bab", "yyy", "aaa")
	given := [][]api.Triple{base, a, b}
	kept := [][]api.Triple{slices.Clone(base), slices.Clone(a), slices.Clone(b)}
	for n := range 3 {
		for m := range 3 {
			x, y, z := base[:2], a[:n], b[:m]
			// Where they clash there is no set, but the pairs are the caller's.
			one, clashes, _ := merge.Merge(x, y, z)
			two, err := merge.Pairs(y, z)
			wantTold(t, "Pairs", err, api.OK)
			three, err := merge.Prefer(x, y, z, true)
			wantTold(t, "Prefer", err, api.OK)
			four, err := merge.Prefer(x, y, z, false)
			wantTold(t, "Prefer", err, api.OK)
			wipe(clashes)
			wipe(two)
			for i, got := range [][]api.Triple{one, three, four} {
				wipe(got)
				for j, l := range given {
					if !slices.Equal(l, kept[j]) {
						t.Fatalf("%d, %d: answer %d reaches into list %d: %v", n, m, i, j, l)
					}
				}
			}
		}
	}
}

// One list may be handed in as all of them.
func TestMergeOfOneList(t *testing.T) {
	l := list("aaa", "bbb")
	wantMet(t, met{l, l, l, l})
	wantMet(t, met{nil, l, l, l})
	wantMet(t, met{l, l, nil, nil})
	wantSet(t, "what was given", l, list("aaa", "bbb"))
}

// What a call answers does not hang on the order in which a map is gone through.
func TestMergeAnswersTheSame(t *testing.T) {
	base, a, b := wide("o", 0, most), wide("u", 0, most), wide("w", 0, most)
	for range 50 {
		wantSides(t, base, a, b, widePairs(0, most))
		got, err := merge.Pairs(a, b)
		wantTold(t, "Pairs", err, api.OK)
		wantPairs(t, "Pairs", got, widePairs(0, most))
	}
}
