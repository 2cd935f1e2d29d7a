package set_test

import (
	"slices"
	"strconv"
	"strings"
	"testing"

	"strataweb/api"
	"strataweb/set"
	"strataweb/triple"
)

// wantHas fails unless Has answers this, and leaves the list alone.
func wantHas(t *testing.T, l []api.Triple, x api.Triple, want bool) {
	t.Helper()
	kept := slices.Clone(l)
	got, err := set.Has(l, x)
	wantTold(t, x, err, api.OK)
	if got != want {
		t.Errorf("Has(%v, %v) = %v, want %v", l, x, got, want)
	}
	if !slices.Equal(l, kept) {
		t.Errorf("Has wrote into %v: %v", kept, l)
	}
}

func TestHas(t *testing.T) {
	all := universe()
	for bits := range 1 << len(all) {
		l := picked(all, bits)
		for i, x := range all {
			wantHas(t, l, x, bits>>i&1 == 1)
		}
	}
	l := span(0, api.MaxSet)
	for _, x := range l {
		wantHas(t, l, x, true)
	}
	for _, x := range append(span(api.MaxSet, api.MaxSet+3), list("aaa", "zzz")...) {
		wantHas(t, l, x, false)
	}
	// What lies behind a list's length is not in it.
	wantHas(t, l[:1], l[1], false)
}

// wantHasNot fails unless Has tells this error, and nothing else.
func wantHasNot(t *testing.T, l []api.Triple, x api.Triple, want api.Errno) {
	t.Helper()
	got, err := set.Has(l, x)
	wantTold(t, x, err, want)
	if got {
		t.Errorf("Has(%v, %v) = true", l, x)
	}
}

// What is wrong with the list is told ahead of what is wrong with the triple.
func TestHasWrong(t *testing.T) {
	a := named("a")
	wrong := map[api.Errno]api.Triple{
		api.ErrRange:  {},
		api.ErrFull:   said(a, named(strings.Repeat("a", api.MaxText+1)), a),
		api.ErrSyntax: said(a, a, text("\n", "")),
		api.ErrShape:  said(a, anon("a"), a),
	}
	for want, x := range wrong {
		wantHasNot(t, nil, x, want)
		wantHasNot(t, list("aaa", "bbb"), x, want)
		for _, bad := range faults() {
			wantHasNot(t, bad.l, x, bad.want)
		}
	}
	for _, bad := range faults() {
		wantHasNot(t, bad.l, list("aaa")[0], bad.want)
		if len(bad.l) <= api.MaxSet {
			wantHasNot(t, bad.l, bad.l[0], bad.want)
		}
	}
}

// wantTerms fails unless Terms answers these, leaves the list alone, and answers the same again.
func wantTerms(t *testing.T, l []api.Triple, want []api.Term) {
	t.Helper()
	kept := slices.Clone(l)
	for range 3 {
		got, err := set.Terms(l)
		wantTold(t, l, err, api.OK)
		if !slices.Equal(got, want) {
			t.Errorf("Terms(%v) = %v, want %v", l, got, want)
		}
		for i := range got {
			got[i] = api.Term{}
		}
		if !slices.Equal(l, kept) {
			t.Errorf("Terms wrote into %v: %v", kept, l)
		}
	}
}

func TestTerms(t *testing.T) {
	a, b := named("a"), named("b")
	wantTerms(t, nil, nil)
	wantTerms(t, []api.Triple{}, nil)
	wantTerms(t, list("aaa"), []api.Term{a})
	wantTerms(t, list("bab"), []api.Term{a, b})
	wantTerms(t, list("cba"), []api.Term{a, b, named("c")})
	wantTerms(t, list("abc", "dba"), []api.Term{a, b, named("c"), named("d")})
	// Each that is unlike by Kind or Lang alone is one of its own, and Kind weighs most.
	wantTerms(t,
		[]api.Triple{said(a, a, text("a", "en")), said(b, a, text("", "")), said(b, a, text("a", "")), said(b, a, text("a", "de")), said(anon("a"), a, anon("0"))},
		[]api.Term{a, b, anon("0"), anon("a"), text("", ""), text("a", ""), text("a", "de"), text("a", "en")})
}

// There is no bound on how many terms a set has but its own.
func TestTermsMost(t *testing.T) {
	var l []api.Triple
	var names, anons, texts []api.Term
	for n := range api.MaxSet {
		no := strconv.Itoa(1000 + n)
		l = append(l, said(anon(no), named("p"+no), text(no, "en")))
		names, anons, texts = append(names, named("p"+no)), append(anons, anon(no)), append(texts, text(no, "en"))
	}
	wantTold(t, "most", triple.Sorted(l), api.OK)
	wantTerms(t, l, slices.Concat(names, anons, texts))
}

func TestTermsWrong(t *testing.T) {
	for _, bad := range faults() {
		got, err := set.Terms(bad.l)
		wantTold(t, bad.l, err, bad.want)
		if len(got) != 0 {
			t.Errorf("Terms(%v) = %v, want none", bad.l, got)
		}
	}
}
