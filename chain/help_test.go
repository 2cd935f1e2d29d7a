package chain_test

import (
	"math"
	"slices"
	"strconv"
	"strings"
	"testing"

	"strataweb/api"
	"strataweb/chain"
	"strataweb/plain"
)

const most = api.MaxSet

// named, anon and text make terms; said makes a triple of them.
func named(s string) api.Term { return api.Term{Kind: api.Name, S: s} }

func anon(s string) api.Term { return api.Term{Kind: api.Anon, S: s} }

func text(s, lang string) api.Term { return api.Term{Kind: api.Text, S: s, Lang: lang} }

func said(s, p, o api.Term) api.Triple { return api.Triple{S: s, P: p, O: o} }

// list makes triples of Names, three bytes each.
func list(words ...string) []api.Triple {
	var l []api.Triple
	for _, w := range words {
		l = append(l, said(named(w[:1]), named(w[1:2]), named(w[2:3])))
	}
	return l
}

// span makes triples, rising, by numbers from one up to another one.
func span(from, to int) []api.Triple {
	var l []api.Triple
	for n := from; n < to; n++ {
		l = append(l, said(named("a"), named("p"), named("x"+strconv.Itoa(1000+n))))
	}
	return l
}

// universe are triples, rising, that are unlike their neighbours in one part alone.
func universe() []api.Triple {
	a := named("a")
	return []api.Triple{
		said(a, a, a),
		said(a, a, text("a", "")),
		said(a, a, text("a", "en")),
		said(a, named("b"), a),
		said(anon("a"), a, a),
	}
}

// picked are the triples whose bits are set.
func picked(l []api.Triple, bits int) []api.Triple {
	var out []api.Triple
	for i, t := range l {
		if bits>>i&1 == 1 {
			out = append(out, t)
		}
	}
	return out
}

// of makes a layer; step makes the one from a set to another one.
func of(add, take []api.Triple) api.Layer { return api.Layer{Add: add, Take: take} }

func step(from, to []api.Triple) api.Layer { return of(less(to, from), less(from, to)) }

func less(a, b []api.Triple) []api.Triple {
	var out []api.Triple
	for _, t := range a {
		if !slices.Contains(b, t) {
			out = append(out, t)
		}
	}
	return out
}

// built makes a chain that goes from graph to graph: the first one is at the bottom.
func built(t *testing.T, graphs ...[]api.Triple) *chain.Chain {
	t.Helper()
	c, err := chain.New(graphs[0])
	wantTold(t, "New", err, api.OK)
	for i, g := range graphs[1:] {
		wantTold(t, i, c.Push(step(graphs[i], g)), api.OK)
	}
	return c
}

// days are graphs that go back and forth: a triple comes, goes and comes again.
func days() [][]api.Triple {
	return [][]api.Triple{
		list("aaa", "bbb"),
		list("aaa", "bbb", "ccc"),
		list("bbb", "ccc", "ddd"),
		list("bbb", "ccc", "ddd"),
		nil,
		list("aaa", "bbb"),
		list("aaa", "bbb", "zzz"),
	}
}

// filled are as many graphs as a chain may have: the bottom, and all layers.
func filled() [][]api.Triple {
	var graphs [][]api.Triple
	for n := range api.MaxLayers + 1 {
		graphs = append(graphs, span(n, 2*n+1))
	}
	return graphs
}

// faulty is a list that is no set, and what Sorted tells of it.
type faulty struct {
	l    []api.Triple
	want api.Errno
}

// faults are lists of all faults that Sorted tells of.
func faults() []faulty {
	a := named("a")
	long := text(strings.Repeat("a", api.MaxText+1), "")
	return []faulty{
		{list("aaa", "aaa"), api.ErrState},
		{list("aab", "aaa"), api.ErrState},
		{append(span(0, most-1), list("aaa")...), api.ErrState},
		{span(0, most+1), api.ErrFull},
		{make([]api.Triple, most+1), api.ErrFull},
		{[]api.Triple{said(a, a, long)}, api.ErrFull},
		{[]api.Triple{{}}, api.ErrRange},
		{append(list("aaa"), said(a, a, api.Term{Kind: 4, S: "a"})), api.ErrRange},
		{[]api.Triple{said(a, named("A"), a)}, api.ErrSyntax},
		{[]api.Triple{said(a, a, text("a", "e"))}, api.ErrSyntax},
		{[]api.Triple{said(text("a", ""), a, a)}, api.ErrShape},
		{append(list("aaa"), said(a, anon("a"), a)), api.ErrShape},
	}
}

// ill is a layer that is none, and what Check tells of it.
type ill struct {
	l    api.Layer
	want api.Errno
}

// ills are layers of all faults that Check tells of: what is wrong with Add comes ahead of what is wrong with Take.
func ills() []ill {
	out := []ill{
		{of(list("abc"), list("abc")), api.ErrClash},
		{of(list("aaa", "abc", "zzz"), list("aab", "abc")), api.ErrClash},
	}
	for _, x := range faults() {
		out = append(out,
			ill{of(x.l, nil), x.want},
			ill{of(nil, x.l), x.want},
			ill{of(x.l, list("zzz")), x.want},
			ill{of(list("zzz"), x.l), x.want},
			ill{of(x.l, list("aaa", "aaa")), x.want},
		)
	}
	return out
}

// wantTold fails unless the error is just the one that is wanted, and nil where nothing is wrong.
func wantTold(t *testing.T, what any, err error, want api.Errno) {
	t.Helper()
	if got := plain.Told(err); got != want || (err == nil) != (want == api.OK) {
		t.Errorf("%v: told %v, want %v", what, err, want)
	}
}

// wantHeld fails unless a chain has just these graphs, from the bottom on, and tells of no other one.
func wantHeld(t *testing.T, c *chain.Chain, graphs [][]api.Triple) {
	t.Helper()
	if got := c.Len(); got != len(graphs)-1 {
		t.Errorf("Len() = %d, want %d", got, len(graphs)-1)
	}
	for at, want := range graphs {
		got, err := c.Graph(at)
		wantSet(t, at, got, err, want)
	}
	for _, at := range beyond(len(graphs) - 1) {
		got, err := c.Graph(at)
		wantNoSet(t, at, got, err, api.ErrRange)
	}
}

// beyond are numbers that are none from 0 to a length.
func beyond(length int) []int {
	return []int{-1, -2, -length - 1, math.MinInt, length + 1, length + 2, 1000, math.MaxInt}
}

// wantSet fails unless a call answered this set, with nothing wrong.
func wantSet(t *testing.T, what any, got []api.Triple, err error, want []api.Triple) {
	t.Helper()
	wantTold(t, what, err, api.OK)
	if !slices.Equal(got, want) {
		t.Errorf("%v = %v, want %v", what, got, want)
	}
}

// wantNoSet fails unless a call told this error, and nothing else.
func wantNoSet(t *testing.T, what any, got []api.Triple, err error, want api.Errno) {
	t.Helper()
	wantTold(t, what, err, want)
	if len(got) != 0 {
		t.Errorf("%v = %v, want none", what, got)
	}
}

// wantPopped fails unless the top layer is this one.
func wantPopped(t *testing.T, c *chain.Chain, want api.Layer) {
	t.Helper()
	got, err := c.Pop()
	wantTold(t, "Pop", err, api.OK)
	if !slices.Equal(got.Add, want.Add) || !slices.Equal(got.Take, want.Take) {
		t.Errorf("Pop() = %v, want %v", got, want)
	}
}

// wantNoPop fails unless there is no layer.
func wantNoPop(t *testing.T, c *chain.Chain) {
	t.Helper()
	got, err := c.Pop()
	wantTold(t, "Pop", err, api.ErrNone)
	if len(got.Add) != 0 || len(got.Take) != 0 {
		t.Errorf("Pop() = %v, want none", got)
	}
}

// wantLayers fails unless a chain's layers are just those between these graphs. None of them is left then.
func wantLayers(t *testing.T, c *chain.Chain, graphs [][]api.Triple) {
	t.Helper()
	wantHeld(t, c, graphs)
	for at := len(graphs) - 1; at > 0; at-- {
		wantPopped(t, c, step(graphs[at-1], graphs[at]))
		wantHeld(t, c, graphs[:at])
	}
	wantNoPop(t, c)
	wantHeld(t, c, graphs[:1])
}
