package triple_test

import (
	"math"
	"strings"
	"testing"

	"strataweb/api"
	"strataweb/plain"
	"strataweb/triple"
)

// named, anon and text make terms; said makes a triple of them.
func named(s string) api.Term { return api.Term{Kind: api.Name, S: s} }

func anon(s string) api.Term { return api.Term{Kind: api.Anon, S: s} }

func text(s, lang string) api.Term { return api.Term{Kind: api.Text, S: s, Lang: lang} }

func said(s, p, o api.Term) api.Triple { return api.Triple{S: s, P: p, O: o} }

// names makes a triple of three Names, one byte each.
func names(spo string) api.Triple {
	return said(named(spo[:1]), named(spo[1:2]), named(spo[2:3]))
}

// wantTold fails unless the error is just the one that is wanted, and nil where nothing is wrong.
func wantTold(t *testing.T, what any, err error, want api.Errno) {
	t.Helper()
	if got := plain.Told(err); got != want || (err == nil) != (want == api.OK) {
		t.Errorf("%#v: told %v, want %v", what, err, want)
	}
}

func TestCheck(t *testing.T) {
	full := strings.Repeat("a", api.MaxText)
	a := named("a")
	for _, c := range []struct {
		t    api.Triple
		want api.Errno
	}{
		{said(a, a, a), api.OK},
		{said(named("ex:a"), named("ex:b"), named("ex:c")), api.OK},
		{said(anon("1"), a, anon("1")), api.OK},
		{said(a, a, text("", "")), api.OK},
		{said(a, a, text("a b", "en")), api.OK},
		{said(named(full), named(full), text(full, "en")), api.OK},
		{said(text("a", ""), a, a), api.ErrShape},
		{said(text("", "en"), a, a), api.ErrShape},
		{said(a, anon("a"), a), api.ErrShape},
		{said(a, text("a", ""), a), api.ErrShape},
		{said(text("a", ""), anon("a"), text("a", "")), api.ErrShape},
		{api.Triple{}, api.ErrRange},
		{said(api.Term{Kind: 4, S: "a"}, a, a), api.ErrRange},
		{said(a, api.Term{Kind: math.MinInt, S: "a"}, a), api.ErrRange},
		{said(a, a, api.Term{Kind: math.MaxInt, S: "a"}), api.ErrRange},
		{said(named(full+"a"), a, a), api.ErrFull},
		{said(a, named(full+"a"), a), api.ErrFull},
		{said(a, a, text(full+"a", "en")), api.ErrFull},
		{said(named("A"), a, a), api.ErrSyntax},
		{said(a, named(""), a), api.ErrSyntax},
		{said(a, a, text("\n", "")), api.ErrSyntax},
		{said(a, a, text("a", "e")), api.ErrSyntax},
		{said(a, a, api.Term{Kind: api.Name, S: "a", Lang: "en"}), api.ErrSyntax},
	} {
		wantTold(t, c.t, triple.Check(c.t), c.want)
	}
}

// What is wrong with S is told ahead of P's fault, this ahead of O's, and how they go together comes last.
func TestCheckTellsTheFirst(t *testing.T) {
	terms := []struct {
		t    api.Term
		want api.Errno
	}{
		{named("a"), api.OK},
		{anon("a"), api.OK},
		{text("a", ""), api.OK},
		{named(strings.Repeat("a", api.MaxText+1)), api.ErrFull},
		{text("a", "?"), api.ErrSyntax},
		{anon(""), api.ErrSyntax},
		{api.Term{Kind: 4}, api.ErrRange},
	}
	for i, s := range terms {
		for j, p := range terms {
			for _, o := range terms {
				want := api.OK
				switch {
				case s.want != api.OK:
					want = s.want
				case p.want != api.OK:
					want = p.want
				case o.want != api.OK:
					want = o.want
				case i == 2 || j != 0:
					want = api.ErrShape
				}
				x := said(s.t, p.t, o.t)
				wantTold(t, x, triple.Check(x), want)
			}
		}
	}
}

// rising are triples, right or not, each below the next one.
func rising() []api.Triple {
	z := text("zz", "zz")
	return []api.Triple{
		said(api.Term{Kind: math.MinInt}, z, z),
		{},
		said(api.Term{}, api.Term{}, named("a")),
		said(api.Term{}, named("a"), api.Term{}),
		names("aaa"),
		names("aab"),
		said(named("a"), named("a"), named("ba")),
		said(named("a"), named("a"), anon("a")),
		said(named("a"), named("a"), text("a", "")),
		said(named("a"), named("a"), text("a", "de")),
		said(named("a"), named("a"), text("a", "en")),
		said(named("a"), named("a"), z),
		names("aba"),
		names("abb"),
		said(named("a"), z, named("a")),
		said(named("aa"), named("a"), named("a")),
		names("baa"),
		said(named("b"), named("b"), z),
		said(named("\xff"), named("a"), named("a")),
		said(anon("1"), named("a"), named("a")),
		said(anon("a"), named("a"), named("a")),
		said(text("", ""), named("a"), named("a")),
		said(text("", "en"), named("a"), named("a")),
		said(z, named("a"), named("a")),
		said(z, z, z),
		said(api.Term{Kind: math.MaxInt}, named("a"), named("a")),
	}
}

func TestCompare(t *testing.T) {
	l := rising()
	for i, a := range l {
		for j, b := range l {
			want := 0
			if i < j {
				want = -1
			} else if i > j {
				want = 1
			}
			if got := triple.Compare(a, b); got != want {
				t.Errorf("Compare(%#v, %#v) = %d, want %d", a, b, got, want)
			}
		}
	}
}
