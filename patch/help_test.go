package patch_test

import (
	"slices"
	"strconv"
	"strings"
	"testing"

	"strataweb/api"
	"strataweb/plain"
)

const most = api.MaxSet

// named, anon and text make terms; said makes a triple of them.
func named(s string) api.Term { return api.Term{Kind: api.Name, S: s} }

func anon(s string) api.Term { return api.Term{Kind: api.Anon, S: s} }

func text(s, lang string) api.Term { return api.Term{Kind: api.Text, S: s, Lang: lang} }

func said(s, p, o api.Term) api.Triple { return api.Triple{S: s, P: p, O: o} }

// list makes triples of Names, three bytes each.
func list(words ...string) []api.Triple {
	var l []api.Triple
	for _, w := range words {
		l = append(l, said(named(w[:1]), named(w[1:2]), named(w[2:3])))
	}
	return l
}

// span makes triples, rising, by numbers from one up to another one; lines are their lines.
func span(from, to int) []api.Triple {
	var l []api.Triple
	for n := from; n < to; n++ {
		l = append(l, said(named("a"), named("p"), named("x"+strconv.Itoa(1000+n))))
	}
	return l
}

func lines(mark string, from, to int) string {
	var out strings.Builder
	for n := from; n < to; n++ {
		out.WriteString(mark + " a p x" + strconv.Itoa(1000+n) + "\n")
	}
	return out.String()
}

// of makes a layer.
func of(add, take []api.Triple) api.Layer { return api.Layer{Add: add, Take: take} }

// universe are triples, rising, that have terms of each kind, and are unlike their neighbours in one part alone.
func universe() []api.Triple {
	a := named("a")
	return []api.Triple{
		said(a, a, a),
		said(a, a, text("a", "")),
		said(a, a, text("a", "en")),
		said(a, named("b"), a),
		said(anon("a"), a, a),
	}
}

// picked are the triples whose bits are set.
func picked(l []api.Triple, bits int) []api.Triple {
	var out []api.Triple
	for i, t := range l {
		if bits>>i&1 == 1 {
			out = append(out, t)
		}
	}
	return out
}

// written is a layer that is right, and its text.
type written struct {
	l    api.Layer
	text string
}

// writtens are layers that are written out by hand.
func writtens() []written {
	a := named("a")
	full := strings.Repeat("a", api.MaxText)
	return []written{
		{},
		{of(list("abc"), nil), "+ a b c\n"},
		{of(nil, list("abc")), "- a b c\n"},
		{of(list("abc"), list("abd")), "- a b d\n+ a b c\n"},
		{of(list("abd"), list("abc")), "- a b c\n+ a b d\n"},
		{of(list("aaa", "ccc", "eee"), list("bbb", "ddd")), "- b b b\n- d d d\n+ a a a\n+ c c c\n+ e e e\n"},
		{of([]api.Triple{said(anon("1"), a, anon("b7"))}, nil), "+ _1 a _b7\n"},
		{of([]api.Triple{said(a, a, text("", ""))}, []api.Triple{said(a, a, text("", "en"))}), "- a a \"\"@en\n+ a a \"\"\n"},
		{of(nil, []api.Triple{said(a, a, text(`" \`, "de"))}), "- a a \"\\\" \\\\\"@de\n"},
		// What looks like a line's beginning, or its end, is none within quotes.
		{of([]api.Triple{said(a, a, text("+ a a a", ""))}, []api.Triple{said(a, a, text(`- a a a\n`, ""))}), "- a a \"- a a a\\\\n\"\n+ a a \"+ a a a\"\n"},
		{of([]api.Triple{said(anon(full), named(full), text(full, "en"))}, nil), "+ _" + full + " " + full + " \"" + full + "\"@en\n"},
		{of(span(0, most), nil), lines("+", 0, most)},
		{of(nil, span(0, most)), lines("-", 0, most)},
		{of(span(0, most), span(most, 2*most)), lines("-", most, 2*most) + lines("+", 0, most)},
	}
}

// faulty is a list that is no set, and what chapter 2's Sorted tells of it.
type faulty struct {
	l    []api.Triple
	want api.Errno
}

// faults are lists of all faults that Sorted tells of.
func faults() []faulty {
	a := named("a")
	return []faulty{
		{list("aaa", "aaa"), api.ErrState},
		{list("aab", "aaa"), api.ErrState},
		{span(0, most+1), api.ErrFull},
		{make([]api.Triple, most+1), api.ErrFull},
		{[]api.Triple{said(a, a, text(strings.Repeat("a", api.MaxText+1), ""))}, api.ErrFull},
		{[]api.Triple{{}}, api.ErrRange},
		{append(list("aaa"), said(a, a, api.Term{Kind: 4, S: "a"})), api.ErrRange},
		{[]api.Triple{said(a, named("A"), a)}, api.ErrSyntax},
		{[]api.Triple{said(a, a, text("a\n+ a a a", ""))}, api.ErrSyntax},
		{[]api.Triple{said(text("a", ""), a, a)}, api.ErrShape},
		{append(list("aaa"), said(a, anon("a"), a)), api.ErrShape},
	}
}

// wrong is a text that is no layer's, the first line that is wrong, and how.
type wrong struct {
	text string
	line int
	want api.Errno
}

// wantTold fails unless the error is just the one that is wanted, and nil where nothing is wrong.
func wantTold(t *testing.T, what any, err error, want api.Errno) {
	t.Helper()
	if got := plain.Told(err); got != want || (err == nil) != (want == api.OK) {
		t.Errorf("%q: told %v, want %v", what, err, want)
	}
}

// wantLine fails unless a call told this line and this error.
func wantLine(t *testing.T, what any, line int, err error, wantLine int, want api.Errno) {
	t.Helper()
	wantTold(t, what, err, want)
	if line != wantLine {
		t.Errorf("%q: line %d, want %d", what, line, wantLine)
	}
}

// wantLayer fails unless a layer is this one.
func wantLayer(t *testing.T, what any, got, want api.Layer) {
	t.Helper()
	if !slices.Equal(got.Add, want.Add) || !slices.Equal(got.Take, want.Take) {
		t.Errorf("%q = %v, want %v", what, got, want)
	}
}

// wantSet fails unless a set is this one.
func wantSet(t *testing.T, what any, got, want []api.Triple) {
	t.Helper()
	if !slices.Equal(got, want) {
		t.Errorf("%q = %v, want %v", what, got, want)
	}
}
