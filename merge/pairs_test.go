package merge_test

import (
	"slices"
	"testing"

	"strataweb/api"
	"strataweb/merge"
)

func TestPairs(t *testing.T) {
	a := named("a")
	for _, c := range []struct {
		a, b []api.Triple
		want []api.Clash
	}{
		{},
		{a: []api.Triple{}, b: []api.Triple{}},
		{list("abc"), nil, pairs("ab")},
		{nil, list("abc"), pairs("ab")},
		{list("abc"), list("abc"), nil},
		{list("abc"), list("abd"), pairs("ab")},
		{list("abc", "abd"), list("abc"), pairs("ab")},
		{list("abc", "abd"), list("abd", "abe"), pairs("ab")},
		// A pair is an S and a P: neither alone, and not what stands at O.
		{list("abc"), list("acb"), pairs("ab", "ac")},
		{list("abc"), list("bac"), pairs("ab", "ba")},
		{list("aab", "abb", "bab", "bbb"), list("aab", "abc", "bab", "bbc"), pairs("ab", "bb")},
		// They rise, whichever side they are of.
		{list("bba", "dda"), list("aaa", "cca", "eea"), pairs("aa", "bb", "cc", "dd", "ee")},
		{list("aba", "baa"), list("aaa", "bba"), pairs("aa", "ab", "ba", "bb")},
		// By Kind ahead of S.
		{[]api.Triple{said(anon("a"), a, a)}, list("zaa"), []api.Clash{{S: named("z"), P: a}, {S: anon("a"), P: a}}},
		// O's are the same just if Kind, S and Lang are.
		{[]api.Triple{said(a, a, a)}, []api.Triple{said(a, a, anon("a"))}, pairs("aa")},
		{[]api.Triple{said(a, a, text("a", ""))}, []api.Triple{said(a, a, text("a", "en"))}, pairs("aa")},
		{[]api.Triple{said(a, a, text("a", "de"))}, []api.Triple{said(a, a, text("a", "en"))}, pairs("aa")},
		{[]api.Triple{said(a, a, text("a", "en"))}, []api.Triple{said(a, a, text("a", "en"))}, nil},
		{[]api.Triple{said(a, a, text("", ""))}, nil, pairs("aa")},
	} {
		got, err := merge.Pairs(c.a, c.b)
		wantTold(t, c, err, api.OK)
		wantPairs(t, c, got, c.want)
	}
}

// There may be more pairs than a set may have triples.
func TestPairsMost(t *testing.T) {
	for _, c := range []struct {
		a, b []api.Triple
		want []api.Clash
	}{
		{wide("o", 0, most), nil, widePairs(0, most)},
		{wide("o", 0, most), wide("o", 0, most), nil},
		{wide("o", 0, most), wide("u", 0, most), widePairs(0, most)},
		{wide("o", 0, most), wide("o", 1, most+1), slices.Concat(widePairs(0, 1), widePairs(most, most+1))},
		{wide("o", 0, most), wide("o", most, 2*most), widePairs(0, 2*most)},
		{wide("o", most, 2*most), wide("o", 0, most), widePairs(0, 2*most)},
		{span("ap", 0, most), span("ap", most, 2*most), pairs("ap")},
	} {
		got, err := merge.Pairs(c.a, c.b)
		wantTold(t, "Pairs", err, api.OK)
		wantPairs(t, "Pairs", got, c.want)
	}
}

func TestPairsAllSmall(t *testing.T) {
	all, groups := universe()
	for a := range 1 << len(all) {
		for b := range 1 << len(all) {
			var want []api.Clash
			for _, g := range groups {
				if (a^b)&g.bits != 0 {
					want = append(want, g.pair)
				}
			}
			got, err := merge.Pairs(picked(all, a), picked(all, b))
			wantTold(t, []int{a, b}, err, api.OK)
			wantPairs(t, []int{a, b}, got, want)
		}
	}
}

// wantNoPairs fails unless Pairs tells this error, and nothing else.
func wantNoPairs(t *testing.T, a, b []api.Triple, want api.Errno) {
	t.Helper()
	got, err := merge.Pairs(a, b)
	wantTold(t, "Pairs", err, want)
	wantPairs(t, "Pairs", got, nil)
}

// What is wrong with a is told ahead of what is wrong with b.
func TestPairsFaults(t *testing.T) {
	for _, x := range faults() {
		for _, s := range [][]api.Triple{nil, list("abc"), span("ap", 0, most)} {
			wantNoPairs(t, x.l, s, x.want)
			wantNoPairs(t, s, x.l, x.want)
		}
		for _, y := range faults() {
			wantNoPairs(t, x.l, y.l, x.want)
		}
	}
}
