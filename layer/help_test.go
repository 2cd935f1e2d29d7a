package layer_test

import (
	"slices"
	"strconv"
	"strings"
	"testing"

	"strataweb/api"
	"strataweb/plain"
)

// named, anon and text make terms; said makes a triple of them.
func named(s string) api.Term { return api.Term{Kind: api.Name, S: s} }

func anon(s string) api.Term { return api.Term{Kind: api.Anon, S: s} }

func text(s, lang string) api.Term { return api.Term{Kind: api.Text, S: s, Lang: lang} }

func said(s, p, o api.Term) api.Triple { return api.Triple{S: s, P: p, O: o} }

// list makes triples of Names, three bytes each.
func list(words ...string) []api.Triple {
	var l []api.Triple
	for _, w := range words {
		l = append(l, said(named(w[:1]), named(w[1:2]), named(w[2:3])))
	}
	return l
}

// span makes triples, rising, by numbers from one up to another one.
func span(from, to int) []api.Triple {
	var l []api.Triple
	for n := from; n < to; n++ {
		l = append(l, said(named("a"), named("p"), named("x"+strconv.Itoa(1000+n))))
	}
	return l
}

// universe are triples, rising, that are unlike their neighbours in one part alone.
func universe() []api.Triple {
	a := named("a")
	return []api.Triple{
		said(a, a, a),
		said(a, a, text("a", "")),
		said(a, a, text("a", "en")),
		said(a, named("b"), a),
		said(anon("a"), a, a),
	}
}

// picked are the triples whose bits are set.
func picked(l []api.Triple, bits int) []api.Triple {
	var out []api.Triple
	for i, t := range l {
		if bits>>i&1 == 1 {
			out = append(out, t)
		}
	}
	return out
}

// of makes a layer; change makes one by bits.
func of(add, take []api.Triple) api.Layer { return api.Layer{Add: add, Take: take} }

func change(l []api.Triple, add, take int) api.Layer { return of(picked(l, add), picked(l, take)) }

// faulty is a list that is no set, and what Sorted tells of it.
type faulty struct {
	l    []api.Triple
	want api.Errno
}

// faults are lists of all faults that Sorted tells of.
func faults() []faulty {
	a := named("a")
	long := text(strings.Repeat("a", api.MaxText+1), "")
	return []faulty{
		{list("aaa", "aaa"), api.ErrState},
		{list("aab", "aaa"), api.ErrState},
		{append(span(0, api.MaxSet-1), list("aaa")...), api.ErrState},
		{span(0, api.MaxSet+1), api.ErrFull},
		{make([]api.Triple, api.MaxSet+1), api.ErrFull},
		{[]api.Triple{said(a, a, long)}, api.ErrFull},
		{[]api.Triple{{}}, api.ErrRange},
		{append(list("aaa"), said(a, a, api.Term{Kind: 4, S: "a"})), api.ErrRange},
		{[]api.Triple{said(a, named("A"), a)}, api.ErrSyntax},
		{[]api.Triple{said(a, a, text("a", "e"))}, api.ErrSyntax},
		{[]api.Triple{said(text("a", ""), a, a)}, api.ErrShape},
		{append(list("aaa"), said(a, anon("a"), a)), api.ErrShape},
	}
}

// ill is a layer that is none, and what Check tells of it.
type ill struct {
	l    api.Layer
	want api.Errno
}

// ills are layers of all faults that Check tells of: what is wrong with Add comes ahead of what is wrong with Take.
func ills() []ill {
	out := []ill{
		{of(list("abc"), list("abc")), api.ErrClash},
		{of(list("aaa", "abc", "zzz"), list("aab", "abc")), api.ErrClash},
		{of(span(0, api.MaxSet), span(api.MaxSet-1, 2*api.MaxSet-1)), api.ErrClash},
	}
	for _, x := range faults() {
		out = append(out,
			ill{of(x.l, nil), x.want},
			ill{of(nil, x.l), x.want},
			ill{of(x.l, list("zzz")), x.want},
			ill{of(list("zzz"), x.l), x.want},
			ill{of(x.l, x.l), x.want},
		)
		for _, y := range faults() {
			out = append(out, ill{of(x.l, y.l), x.want})
		}
	}
	return out
}

// wantTold fails unless the error is just the one that is wanted, and nil where nothing is wrong.
func wantTold(t *testing.T, what any, err error, want api.Errno) {
	t.Helper()
	if got := plain.Told(err); got != want || (err == nil) != (want == api.OK) {
		t.Errorf("%v: told %v, want %v", what, err, want)
	}
}

// wantSet fails unless a call answered this set, with nothing wrong.
func wantSet(t *testing.T, what any, got []api.Triple, err error, want []api.Triple) {
	t.Helper()
	wantTold(t, what, err, api.OK)
	if !slices.Equal(got, want) {
		t.Errorf("%v = %v, want %v", what, got, want)
	}
}

// wantLayer fails unless a call answered this layer, with nothing wrong.
func wantLayer(t *testing.T, what any, got api.Layer, err error, want api.Layer) {
	t.Helper()
	wantTold(t, what, err, api.OK)
	if !same(got, want) {
		t.Errorf("%v = %v, want %v", what, got, want)
	}
}

// wantNoSet fails unless a call told this error, and nothing else.
func wantNoSet(t *testing.T, what any, got []api.Triple, err error, want api.Errno) {
	t.Helper()
	wantTold(t, what, err, want)
	if len(got) != 0 {
		t.Errorf("%v = %v, want none", what, got)
	}
}

// wantNoLayer fails unless a call told this error, and nothing else.
func wantNoLayer(t *testing.T, what any, got api.Layer, err error, want api.Errno) {
	t.Helper()
	wantTold(t, what, err, want)
	if len(got.Add) != 0 || len(got.Take) != 0 {
		t.Errorf("%v = %v, want none", what, got)
	}
}

// same tells whether two layers do the same.
func same(a, b api.Layer) bool {
	return slices.Equal(a.Add, b.Add) && slices.Equal(a.Take, b.Take)
}
