package triple_test

import (
	"slices"
	"strconv"
	"testing"

	"strataweb/api"
	"strataweb/triple"
)

// list makes triples of Names, three bytes each.
func list(words ...string) []api.Triple {
	var l []api.Triple
	for _, w := range words {
		l = append(l, names(w))
	}
	return l
}

// many makes so many triples, rising.
func many(n int) []api.Triple {
	var l []api.Triple
	for i := range n {
		l = append(l, said(named("a"), named("p"), named("x"+strconv.Itoa(1000+i))))
	}
	return l
}

// wantSorted fails unless Sort answers this list, leaves alone what it was given, and answers memory of its own.
func wantSorted(t *testing.T, l, want []api.Triple) {
	t.Helper()
	kept := slices.Clone(l)
	got, err := triple.Sort(l)
	wantTold(t, l, err, api.OK)
	if !slices.Equal(got, want) {
		t.Errorf("Sort(%v) = %v, want %v", l, got, want)
	}
	for i := range got {
		got[i] = api.Triple{}
	}
	if !slices.Equal(l, kept) {
		t.Errorf("Sort wrote into %v: %v", kept, l)
	}
}

func TestSort(t *testing.T) {
	wantSorted(t, nil, nil)
	wantSorted(t, []api.Triple{}, nil)
	wantSorted(t, list("abc"), list("abc"))
	wantSorted(t, list("aaa", "aab", "aba", "baa"), list("aaa", "aab", "aba", "baa"))
	wantSorted(t, list("baa", "aba", "aab", "aaa"), list("aaa", "aab", "aba", "baa"))
	wantSorted(t, list("aaa", "aaa"), list("aaa"))
	wantSorted(t, list("bbb", "aaa", "bbb", "aaa", "ccc", "aaa"), list("aaa", "bbb", "ccc"))
	a := named("a")
	wantSorted(t,
		[]api.Triple{said(anon("a"), a, a), said(a, a, text("a", "en")), said(a, a, text("a", "de")), said(a, a, anon("a")), said(a, a, text("a", ""))},
		[]api.Triple{said(a, a, anon("a")), said(a, a, text("a", "")), said(a, a, text("a", "de")), said(a, a, text("a", "en")), said(anon("a"), a, a)})
}

func TestSortAllOrders(t *testing.T) {
	right := list("aaa", "aab", "aba", "baa", "bab")
	for n := range 5 * 5 * 5 * 5 * 5 * 5 {
		var l []api.Triple
		has := make([]bool, len(right))
		for range 6 {
			l = append(l, right[n%5])
			has[n%5] = true
			n /= 5
		}
		var want []api.Triple
		for i, is := range has {
			if is {
				want = append(want, right[i])
			}
		}
		wantSorted(t, l, want)
	}
}

func TestSortMost(t *testing.T) {
	l := many(api.MaxSet)
	turned := slices.Clone(l)
	slices.Reverse(turned)
	wantSorted(t, turned, l)
	same := slices.Repeat(list("abc"), api.MaxSet)
	wantSorted(t, same, list("abc"))
}

// wantUnsorted fails unless Sort tells this error, and nothing else.
func wantUnsorted(t *testing.T, l []api.Triple, want api.Errno) {
	t.Helper()
	got, err := triple.Sort(l)
	wantTold(t, l, err, want)
	if len(got) != 0 {
		t.Errorf("Sort(%v) = %v, want none", l, got)
	}
}

// faults makes triples that are wrong: by range, by syntax, by length, by shape.
func faults() map[api.Errno]api.Triple {
	a := named("a")
	return map[api.Errno]api.Triple{
		api.ErrRange:  said(a, a, api.Term{Kind: 4, S: "a"}),
		api.ErrSyntax: said(a, named("A"), a),
		api.ErrFull:   said(a, a, text("aaaaaaaaaaaaaaaaaaaaaaaaa", "")),
		api.ErrShape:  said(text("a", ""), a, a),
	}
}

func TestSortWrong(t *testing.T) {
	// How many there are is told first, and repeated ones count.
	wantUnsorted(t, many(api.MaxSet+1), api.ErrFull)
	wantUnsorted(t, slices.Repeat(list("abc"), api.MaxSet+1), api.ErrFull)
	wantUnsorted(t, make([]api.Triple, api.MaxSet+1), api.ErrFull)
	for want, wrong := range faults() {
		wantUnsorted(t, []api.Triple{wrong}, want)
		wantUnsorted(t, append(list("bbb", "aaa"), wrong), want)
		wantUnsorted(t, append(many(api.MaxSet-1), wrong), want)
		wantUnsorted(t, append([]api.Triple{wrong}, many(api.MaxSet)...), api.ErrFull)
		for _, other := range faults() {
			wantUnsorted(t, []api.Triple{names("bbb"), wrong, names("aaa"), other}, want)
		}
	}
}

func TestSorted(t *testing.T) {
	for _, c := range []struct {
		l    []api.Triple
		want api.Errno
	}{
		{nil, api.OK},
		{[]api.Triple{}, api.OK},
		{list("abc"), api.OK},
		{list("aaa", "aab", "aba", "baa"), api.OK},
		{many(api.MaxSet), api.OK},
		{list("aaa", "aaa"), api.ErrState},
		{list("aab", "aaa"), api.ErrState},
		{list("aba", "aab"), api.ErrState},
		{list("baa", "abb"), api.ErrState},
		{list("aaa", "aab", "aab"), api.ErrState},
		{list("aaa", "aac", "aab", "aad"), api.ErrState},
		{append(many(api.MaxSet-1), names("aaa")), api.ErrState},
		{many(api.MaxSet + 1), api.ErrFull},
		{slices.Repeat(list("abc"), api.MaxSet+1), api.ErrFull},
		{make([]api.Triple, api.MaxSet+1), api.ErrFull},
	} {
		wantTold(t, c.l, triple.Sorted(c.l), c.want)
	}
}

// The first triple that has a fault says which one is told: its own, ahead of where it stands.
func TestSortedTellsTheFirst(t *testing.T) {
	for want, wrong := range faults() {
		for _, c := range []struct {
			l    []api.Triple
			want api.Errno
		}{
			{[]api.Triple{wrong}, want},
			{[]api.Triple{names("aaa"), wrong}, want},
			{[]api.Triple{names("zzz"), wrong}, want},
			{[]api.Triple{wrong, wrong}, want},
			{[]api.Triple{wrong, names("bbb"), names("aaa")}, want},
			{[]api.Triple{names("bbb"), names("aaa"), wrong}, api.ErrState},
			{[]api.Triple{names("aaa"), names("aaa"), wrong}, api.ErrState},
			{append(many(api.MaxSet-1), wrong), want},
			{append(many(api.MaxSet), wrong), api.ErrFull},
		} {
			wantTold(t, c.l, triple.Sorted(c.l), c.want)
		}
		for _, other := range faults() {
			l := []api.Triple{names("aaa"), wrong, other}
			wantTold(t, l, triple.Sorted(l), want)
		}
	}
}

// What lies behind a list's length is neither read nor written.
func TestNothingBehindTheLength(t *testing.T) {
	whole := list("bbb", "aaa", "zzz", "zzz")
	kept := slices.Clone(whole)
	wantSorted(t, whole[:2], list("aaa", "bbb"))
	wantTold(t, whole[1:3], triple.Sorted(whole[1:3]), api.OK)
	if !slices.Equal(whole, kept) {
		t.Errorf("written into: %v", whole)
	}
	empty := whole[:0]
	out, err := triple.Sort(empty)
	wantTold(t, empty, err, api.OK)
	if _ = append(out, names("ccc")); !slices.Equal(whole, kept) {
		t.Errorf("written into: %v", whole)
	}
}

func FuzzSort(f *testing.F) {
	f.Add([]byte{})
	f.Add([]byte{3, 2, 1, 3, 200})
	f.Fuzz(func(t *testing.T, picks []byte) {
		var l []api.Triple
		has := map[api.Triple]bool{}
		for _, b := range picks {
			x := said(named(string('a'+rune(b%4))), named(string('a'+rune(b/4%4))), text(string('a'+rune(b/16%8)), ""))
			l = append(l, x)
			has[x] = true
		}
		if len(l) > api.MaxSet {
			wantUnsorted(t, l, api.ErrFull)
			return
		}
		got, err := triple.Sort(l)
		wantTold(t, l, err, api.OK)
		wantTold(t, got, triple.Sorted(got), api.OK)
		if len(got) != len(has) {
			t.Errorf("Sort(%v) = %v", l, got)
		}
		for _, x := range got {
			if !has[x] {
				t.Errorf("Sort made %v", x)
			}
		}
	})
}
