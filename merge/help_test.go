package merge_test

import (
	"slices"
	"strconv"
	"strings"
	"testing"

	"strataweb/api"
	"strataweb/plain"
)

const most = api.MaxSet

// named, anon and text make terms; said makes a triple of them.
func named(s string) api.Term { return api.Term{Kind: api.Name, S: s} }

func anon(s string) api.Term { return api.Term{Kind: api.Anon, S: s} }

func text(s, lang string) api.Term { return api.Term{Kind: api.Text, S: s, Lang: lang} }

func said(s, p, o api.Term) api.Triple { return api.Triple{S: s, P: p, O: o} }

// list makes triples of Names, three bytes each.
func list(words ...string) []api.Triple {
	var l []api.Triple
	for _, w := range words {
		l = append(l, said(named(w[:1]), named(w[1:2]), named(w[2:3])))
	}
	return l
}

// pairs makes pairs of Names, two bytes each.
func pairs(words ...string) []api.Clash {
	var l []api.Clash
	for _, w := range words {
		l = append(l, api.Clash{S: named(w[:1]), P: named(w[1:2])})
	}
	return l
}

// span makes triples of one pair, rising, by numbers from one up to another one.
func span(pair string, from, to int) []api.Triple {
	var l []api.Triple
	for n := from; n < to; n++ {
		l = append(l, said(named(pair[:1]), named(pair[1:2]), named("x"+strconv.Itoa(1000+n))))
	}
	return l
}

// wide makes triples of a pair each, rising, by numbers from one up to another one; widePairs are their pairs.
func wide(object string, from, to int) []api.Triple {
	var l []api.Triple
	for n := from; n < to; n++ {
		l = append(l, said(named("x"+strconv.Itoa(1000+n)), named("p"), named(object)))
	}
	return l
}

func widePairs(from, to int) []api.Clash {
	var l []api.Clash
	for _, t := range wide("o", from, to) {
		l = append(l, api.Clash{S: t.S, P: t.P})
	}
	return l
}

// group is a pair, and which bits of the universe are its triples.
type group struct {
	pair api.Clash
	bits int
}

// universe are triples, rising, and their pairs, rising: neighbours are unlike in one part alone.
func universe() ([]api.Triple, []group) {
	a := named("a")
	all := []api.Triple{
		said(a, a, a),
		said(a, a, text("a", "")),
		said(a, a, text("a", "en")),
		said(a, named("b"), a),
		said(anon("a"), a, a),
	}
	return all, []group{
		{api.Clash{S: a, P: a}, 1 | 2 | 4},
		{api.Clash{S: a, P: named("b")}, 8},
		{api.Clash{S: anon("a"), P: a}, 16},
	}
}

// picked are the triples whose bits are set.
func picked(l []api.Triple, bits int) []api.Triple {
	var out []api.Triple
	for i, t := range l {
		if bits>>i&1 == 1 {
			out = append(out, t)
		}
	}
	return out
}

// merged says by bits, pair by pair, in the chapter's words, what comes of two sides, and which pairs both changed unlike.
func merged(groups []group, base, a, b int, first bool) (int, []api.Clash) {
	out := 0
	var clashes []api.Clash
	for _, g := range groups {
		x, y, z := base&g.bits, a&g.bits, b&g.bits
		switch {
		case y != x && z == x:
			out |= y
		case y == x && z != x:
			out |= z
		case y == z:
			out |= y
		default:
			clashes = append(clashes, g.pair)
			if first {
				out |= y
			} else {
				out |= z
			}
		}
	}
	return out, clashes
}

// faulty is a list that is no set, and what chapter 2's Sorted tells of it.
type faulty struct {
	l    []api.Triple
	want api.Errno
}

// faults are lists of all faults that Sorted tells of.
func faults() []faulty {
	a := named("a")
	return []faulty{
		{list("aaa", "aaa"), api.ErrState},
		{list("aab", "aaa"), api.ErrState},
		{append(span("bp", 0, most-1), list("aaa")...), api.ErrState},
		{span("ap", 0, most+1), api.ErrFull},
		{make([]api.Triple, most+1), api.ErrFull},
		{[]api.Triple{said(a, a, text(strings.Repeat("a", api.MaxText+1), ""))}, api.ErrFull},
		{[]api.Triple{{}}, api.ErrRange},
		{append(list("aaa"), said(a, a, api.Term{Kind: 4, S: "a"})), api.ErrRange},
		{[]api.Triple{said(a, named("A"), a)}, api.ErrSyntax},
		{[]api.Triple{said(a, a, text("a", "e"))}, api.ErrSyntax},
		{[]api.Triple{said(text("a", ""), a, a)}, api.ErrShape},
		{append(list("aaa"), said(a, anon("a"), a)), api.ErrShape},
	}
}

// wantTold fails unless the error is just the one that is wanted, and nil where nothing is wrong.
func wantTold(t *testing.T, what any, err error, want api.Errno) {
	t.Helper()
	if got := plain.Told(err); got != want || (err == nil) != (want == api.OK) {
		t.Errorf("%v: told %v, want %v", what, err, want)
	}
}

// wantSet fails unless a set is this one.
func wantSet(t *testing.T, what any, got, want []api.Triple) {
	t.Helper()
	if !slices.Equal(got, want) {
		t.Errorf("%v = %v, want %v", what, got, want)
	}
}

// wantPairs fails unless pairs are these.
func wantPairs(t *testing.T, what any, got, want []api.Clash) {
	t.Helper()
	if !slices.Equal(got, want) {
		t.Errorf("%v: pairs %v, want %v", what, got, want)
	}
}

// wipe writes on all of a list's memory.
func wipe[T any](l []T) {
	clear(l[:cap(l)])
}
