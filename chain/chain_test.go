package chain_test

import (
	"slices"
	"strings"
	"testing"
	"unsafe"

	"strataweb/api"
	"strataweb/chain"
)

func TestNew(t *testing.T) {
	for _, s := range [][]api.Triple{nil, {}, list("abc"), universe(), span(0, most)} {
		c, err := chain.New(s)
		wantTold(t, s, err, api.OK)
		wantLayers(t, c, [][]api.Triple{s})
	}
	for _, x := range faults() {
		c, err := chain.New(x.l)
		wantTold(t, x, err, x.want)
		if c != nil {
			t.Errorf("New(%v) = %v, want none", x.l, c)
		}
	}
}

func TestPush(t *testing.T) {
	wantLayers(t, built(t, days()...), days())
	wantLayers(t, built(t, nil, nil, nil), [][]api.Triple{nil, nil, nil})
	wantLayers(t, built(t, nil, list("abc"), nil, list("abc")), [][]api.Triple{nil, list("abc"), nil, list("abc")})
	// A full graph may give some up for others.
	full := [][]api.Triple{span(0, most), span(most, 2*most), span(most+1, 2*most+1), nil, span(0, most)}
	wantLayers(t, built(t, full...), full)
}

// All graphs of three triples, from each to each.
func TestPushAllSmall(t *testing.T) {
	all := universe()[1:4]
	n := 1 << len(all)
	for bits := range n * n * n * n {
		graphs := [][]api.Triple{picked(all, bits%n), picked(all, bits/n%n)}
		add, take := bits/n/n%n, bits/n/n/n
		c := built(t, graphs...)
		err := c.Push(of(picked(all, add), picked(all, take)))
		top := bits / n % n
		switch {
		case add&take != 0 || add&top != 0:
			wantTold(t, bits, err, api.ErrClash)
		case take&^top != 0:
			wantTold(t, bits, err, api.ErrNone)
		default:
			wantTold(t, bits, err, api.OK)
			graphs = append(graphs, picked(all, top&^take|add))
		}
		wantHeld(t, c, graphs)
	}
}

// A layer goes on the top graph, not on one below it, and one that does not go on it changes nothing.
func TestPushFaults(t *testing.T) {
	c := built(t, days()...)
	for _, x := range ills() {
		wantTold(t, x, c.Push(x.l), x.want)
	}
	for _, x := range []ill{
		{of(list("aaa"), nil), api.ErrClash},
		{of(list("zzz"), list("ccc")), api.ErrClash},
		{of(append(list("aaa"), span(0, most-1)...), nil), api.ErrClash},
		{of(nil, list("ccc")), api.ErrNone},
		{of(span(0, most), list("aaa", "bbb", "ccc")), api.ErrNone},
		{of(span(0, most-2), nil), api.ErrFull},
		{of(span(0, most), list("aaa", "bbb")), api.ErrFull},
	} {
		wantTold(t, x, c.Push(x.l), x.want)
	}
	wantLayers(t, c, days())
}

func TestPushFillsTheGraph(t *testing.T) {
	c := built(t, days()...)
	wantTold(t, "most", c.Push(of(span(0, most-3), nil)), api.OK)
	wantTold(t, "more", c.Push(of(list("bcd"), nil)), api.ErrFull)
	wantTold(t, "as many", c.Push(of(list("bcd"), list("zzz"))), api.OK)
	if got := c.Len(); got != len(days())+1 {
		t.Errorf("Len() = %d, want %d", got, len(days())+1)
	}
}

// One layer too many is told ahead of all that is wrong with it.
func TestPushMost(t *testing.T) {
	graphs := filled()
	c := built(t, graphs...)
	wantTold(t, "good", c.Push(of(list("abc"), nil)), api.ErrFull)
	wantTold(t, "empty", c.Push(api.Layer{}), api.ErrFull)
	wantTold(t, "none", c.Push(of(nil, list("abc"))), api.ErrFull)
	wantTold(t, "clash", c.Push(of(span(30, 31), nil)), api.ErrFull)
	for _, x := range ills() {
		wantTold(t, x, c.Push(x.l), api.ErrFull)
	}
	wantHeld(t, c, graphs)
	// One that is gone makes room for one.
	top := len(graphs) - 1
	for range 3 {
		wantPopped(t, c, step(graphs[top-1], graphs[top]))
		wantTold(t, "wrong", c.Push(of(nil, list("abc"))), api.ErrNone)
		wantTold(t, "again", c.Push(step(graphs[top-1], graphs[top])), api.OK)
		wantTold(t, "too many", c.Push(api.Layer{}), api.ErrFull)
	}
	wantLayers(t, c, graphs)
}

func TestPop(t *testing.T) {
	c := built(t, list("abc"))
	wantNoPop(t, c)
	wantTold(t, "Push", c.Push(of(list("abd"), list("abc"))), api.OK)
	wantPopped(t, c, of(list("abd"), list("abc")))
	wantNoPop(t, c)
	wantNoPop(t, c)
	// What was pushed ahead of it is no more.
	wantTold(t, "Push", c.Push(of(nil, list("abd"))), api.ErrNone)
	wantTold(t, "Push", c.Push(of(list("abe"), nil)), api.OK)
	wantLayers(t, c, [][]api.Triple{list("abc"), list("abc", "abe")})
}

func TestMatch(t *testing.T) {
	x, y := api.Slot{Var: "x"}, api.Slot{Var: "y"}
	a, b := api.Slot{Term: named("a")}, api.Slot{Term: named("b")}
	graphs := [][]api.Triple{
		list("aaa", "aab", "bab"),
		list("aab", "bab", "bbb"),
		nil,
		list("aab", "baa"),
	}
	c := built(t, graphs...)
	for _, q := range []struct {
		p    api.Pattern
		want [][]api.Triple
	}{
		{api.Pattern{S: x, P: y, O: api.Slot{Var: "zabcdefghi"}}, graphs},
		{api.Pattern{S: a, P: x, O: y}, [][]api.Triple{list("aaa", "aab"), list("aab"), nil, list("aab")}},
		{api.Pattern{S: x, P: x, O: x}, [][]api.Triple{list("aaa"), list("bbb"), nil, nil}},
		{api.Pattern{S: x, P: y, O: x}, [][]api.Triple{list("aaa", "bab"), list("bab", "bbb"), nil, nil}},
		{api.Pattern{S: b, P: a, O: b}, [][]api.Triple{list("bab"), list("bab"), nil, nil}},
	} {
		for at, want := range q.want {
			got, err := c.Match(at, q.p)
			wantSet(t, at, got, err, want)
		}
	}
	wantLayers(t, c, graphs)
}

// That there are not so many layers is told ahead of what is wrong with a pattern.
func TestMatchFaults(t *testing.T) {
	x, a := api.Slot{Var: "x"}, api.Slot{Term: named("a")}
	long := api.Slot{Term: text(strings.Repeat("a", api.MaxText+1), "")}
	c := built(t, days()...)
	for _, q := range []struct {
		p    api.Pattern
		want api.Errno
	}{
		{api.Pattern{S: x, P: x, O: x}, api.OK},
		{api.Pattern{}, api.ErrRange},
		{api.Pattern{S: x, P: api.Slot{Term: api.Term{Kind: 4, S: "a"}}, O: a}, api.ErrRange},
		{api.Pattern{S: x, P: a, O: long}, api.ErrFull},
		{api.Pattern{S: api.Slot{Var: "X"}, P: a, O: long}, api.ErrSyntax},
		{api.Pattern{S: x, P: api.Slot{Var: "elevenlette"}, O: long}, api.ErrSyntax},
		{api.Pattern{S: api.Slot{Term: named("A")}, P: a, O: a}, api.ErrSyntax},
		{api.Pattern{S: a, P: a, O: api.Slot{Var: "x", Term: named("a")}}, api.ErrShape},
	} {
		for at := range days() {
			got, err := c.Match(at, q.p)
			wantTold(t, q, err, q.want)
			if q.want != api.OK {
				wantNoSet(t, q, got, err, q.want)
			}
		}
		for _, at := range beyond(c.Len()) {
			got, err := c.Match(at, q.p)
			wantNoSet(t, q, got, err, api.ErrRange)
		}
	}
	wantLayers(t, c, days())
}

// wipe writes on all of a list's memory.
func wipe(l []api.Triple) {
	l = l[:cap(l)]
	for i := range l {
		l[i] = api.Triple{}
	}
}

// What is done to what was handed in, behind the call, is nothing to the chain; nor is what lies behind the lengths.
func TestKeepsNothingThatIsHandedIn(t *testing.T) {
	for n := range 3 {
		bottom, add, take := list("aaa", "bbb", "zzz"), list("ccc", "ddd", "aaa"), list("aaa", "bbb", "aaa")
		graphs := [][]api.Triple{list("aaa", "bbb"), slices.Concat(less(list("aaa", "bbb"), take[:n]), add[:n])}
		c, err := chain.New(bottom[:2])
		wantTold(t, "New", err, api.OK)
		wantTold(t, "Push", c.Push(of(add[:n], take[:n])), api.OK)
		if !slices.Equal(slices.Concat(bottom, add, take), list("aaa", "bbb", "zzz", "ccc", "ddd", "aaa", "aaa", "bbb", "aaa")) {
			t.Errorf("%d: a list was written into: %v, %v, %v", n, bottom, add, take)
		}
		wipe(bottom)
		wipe(add)
		wipe(take)
		wantLayers(t, c, graphs)
	}
}

// What is done to what came out, behind the call, is nothing to the chain, nor to what comes out again.
func TestAnswersAreTheCallers(t *testing.T) {
	all := api.Pattern{S: api.Slot{Var: "x"}, P: api.Slot{Var: "y"}, O: api.Slot{Var: "z"}}
	c := built(t, days()...)
	for range 2 {
		for at := range days() {
			g, err := c.Graph(at)
			wantTold(t, at, err, api.OK)
			m, err := c.Match(at, all)
			wantTold(t, at, err, api.OK)
			wipe(m)
			wantSet(t, at, g, err, days()[at])
			_ = append(g, list("xxx", "yyy")...)
			wipe(g)
		}
		wantHeld(t, c, days())
	}
	for at := len(days()) - 1; at > 0; at-- {
		l, err := c.Pop()
		wantTold(t, "Pop", err, api.OK)
		kept := slices.Clone(l.Take)
		_ = append(l.Add, list("xxx", "yyy")...)
		wipe(l.Add)
		if !slices.Equal(l.Take, kept) {
			t.Errorf("Take is %v, was %v", l.Take, kept)
		}
		wipe(l.Take)
		wantHeld(t, c, days()[:at])
	}
}

// A short text that is kept doesn't keep a long one that it was cut from.
func TestKeepsNoLongText(t *testing.T) {
	long := strings.Repeat("ab", 1000)
	x := said(named(long[:2]), named(long[2:4]), text(long[4:6], long[6:8]))
	y := said(named(long[:3]), named(long[2:4]), text(long[4:6], long[6:8]))
	c, err := chain.New([]api.Triple{x})
	wantTold(t, "New", err, api.OK)
	wantTold(t, "Push", c.Push(of([]api.Triple{y}, []api.Triple{x})), api.OK)
	bottom, err := c.Graph(0)
	wantSet(t, "bottom", bottom, err, []api.Triple{x})
	l, err := c.Pop()
	wantTold(t, "Pop", err, api.OK)
	first := uintptr(unsafe.Pointer(unsafe.StringData(long)))
	for _, k := range slices.Concat(bottom, l.Add, l.Take) {
		for _, s := range []string{k.S.S, k.P.S, k.O.S, k.O.Lang} {
			if at := uintptr(unsafe.Pointer(unsafe.StringData(s))); at >= first && at < first+uintptr(len(long)) {
				t.Errorf("%v: %q is a piece of the long text", k, s)
			}
		}
	}
}

func TestChainsAreApart(t *testing.T) {
	s := list("aaa")
	one, two := built(t, s), built(t, s)
	wantTold(t, "one", one.Push(of(list("bbb"), nil)), api.OK)
	wantNoPop(t, two)
	wantTold(t, "two", two.Push(of(list("ccc"), s)), api.OK)
	wantLayers(t, one, [][]api.Triple{s, list("aaa", "bbb")})
	wantLayers(t, two, [][]api.Triple{s, list("ccc")})
}
