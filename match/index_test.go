package match_test

import (
	"slices"
	"strings"
	"testing"

	"strataweb/api"
	"strataweb/match"
	"strataweb/term"
	"strataweb/triple"
)

func orders() []string { return []string{"spo", "sop", "pso", "pos", "osp", "ops"} }

// wantIndex fails unless Index answers these places, leaves the set alone, and answers the same when its last answer was written into.
func wantIndex(t *testing.T, l []api.Triple, order string, want ...int) {
	t.Helper()
	kept := slices.Clone(l)
	for range 2 {
		got, err := match.Index(l, order)
		wantTold(t, order, err, api.OK)
		if !slices.Equal(got, want) {
			t.Errorf("Index(%v, %q) = %v, want %v", l, order, got, want)
		}
		for i := range got {
			got[i] = -1
		}
		if !slices.Equal(l, kept) {
			t.Errorf("Index wrote into %v: %v", kept, l)
		}
	}
}

// wantNoIndex fails unless Index tells this error, and nothing else.
func wantNoIndex(t *testing.T, l []api.Triple, order string, want api.Errno) {
	t.Helper()
	got, err := match.Index(l, order)
	wantTold(t, order, err, want)
	if len(got) != 0 {
		t.Errorf("Index(%v, %q) = %v, want none", l, order, got)
	}
}

func TestIndex(t *testing.T) {
	for _, order := range orders() {
		wantIndex(t, nil, order)
		wantIndex(t, []api.Triple{}, order)
		wantIndex(t, list("abc"), order, 0)
	}
	l := list("abd", "acc", "bbc", "bca", "cab", "cbb")
	wantIndex(t, l, "spo", 0, 1, 2, 3, 4, 5)
	wantIndex(t, l, "sop", 1, 0, 3, 2, 4, 5)
	wantIndex(t, l, "pso", 4, 0, 2, 5, 1, 3)
	wantIndex(t, l, "pos", 4, 5, 2, 0, 3, 1)
	wantIndex(t, l, "osp", 3, 4, 5, 1, 2, 0)
	wantIndex(t, l, "ops", 3, 4, 5, 2, 1, 0)
	// Kind weighs more than S, and S more than Lang.
	a, p := named("a"), named("p")
	wantIndex(t, []api.Triple{
		said(a, p, text("a", "en")),
		said(named("b"), p, text("a", "de")),
		said(named("c"), p, text("b", "")),
		said(named("d"), p, text("a", "")),
		said(named("e"), p, anon("z")),
		said(named("f"), p, named("zz")),
	}, "osp", 5, 4, 3, 1, 0, 2)
}

// part is what a letter of an order names.
func part(x api.Triple, letter byte) api.Term {
	switch letter {
	case 's':
		return x.S
	case 'p':
		return x.P
	}
	return x.O
}

// risesBy tells whether one stands ahead of another one in an order.
func risesBy(order string, a, b api.Triple) bool {
	for i := range len(order) {
		if c := term.Compare(part(a, order[i]), part(b, order[i])); c != 0 {
			return c < 0
		}
	}
	return false
}

// wantRising fails unless Index answers each place once, and the triples rise there.
func wantRising(t *testing.T, l []api.Triple, order string) {
	t.Helper()
	got, err := match.Index(l, order)
	wantTold(t, order, err, api.OK)
	for i := 1; i < len(got); i++ {
		if !risesBy(order, l[got[i-1]], l[got[i]]) {
			t.Errorf("Index(%q): %v stands ahead of %v", order, l[got[i-1]], l[got[i]])
		}
	}
	slices.Sort(got)
	if len(got) != len(l) || len(slices.Compact(got)) != len(l) {
		t.Errorf("Index(%q): %d places of %d triples", order, len(got), len(l))
	}
}

func TestIndexRises(t *testing.T) {
	all := universe()
	for _, order := range orders() {
		for n := range len(all) + 1 {
			wantRising(t, all[:n], order)
			wantRising(t, all[n:], order)
		}
		for bits := range 1 << 9 {
			var l []api.Triple
			for i := range 9 {
				if bits>>i&1 == 1 {
					l = append(l, all[3*i])
				}
			}
			wantRising(t, l, order)
		}
	}
}

func TestIndexMost(t *testing.T) {
	var l []api.Triple
	for n := range api.MaxSet {
		x := span(0, api.MaxSet)[(n*77)%api.MaxSet]
		l = append(l, said(span(n, n+1)[0].O, x.P, x.O))
	}
	wantTold(t, "most", triple.Sorted(l), api.OK)
	for _, order := range orders() {
		wantRising(t, l, order)
	}
}

// wrongOrders are texts that are no order, all of up to three letters among them.
func wrongOrders() []string {
	out := []string{"spoo", "spos", "spospo", " spo", "spo ", "s p o", "SPO", "sPo", "sp\x00", "spo\x00", "sp\xff", "subject", strings.Repeat("spo", 1000)}
	some := []string{""}
	for range 3 {
		var next []string
		for _, x := range some {
			for _, letter := range "spox" {
				next = append(next, x+string(letter))
			}
		}
		out, some = append(out, some...), next
	}
	for _, x := range some {
		if !slices.Contains(orders(), x) {
			out = append(out, x)
		}
	}
	return out
}

func TestIndexNoOrder(t *testing.T) {
	for _, order := range wrongOrders() {
		for _, l := range [][]api.Triple{nil, list("abc"), universe(), span(0, api.MaxSet)} {
			wantNoIndex(t, l, order, api.ErrSyntax)
		}
	}
}

// What is wrong with the list is told ahead of what is wrong with the order.
func TestIndexNoSet(t *testing.T) {
	for _, bad := range noSets() {
		for _, order := range append(orders(), "", "sss", "spos") {
			wantNoIndex(t, bad.l, order, bad.want)
		}
	}
}

// What lies behind a list's length has no place.
func TestIndexNothingBehindTheLength(t *testing.T) {
	l := list("aac", "bbb", "aaa", "aaa")
	for _, order := range orders() {
		want := []int{0, 1}
		if order[0] == 'o' {
			want = []int{1, 0}
		}
		wantIndex(t, l[:2], order, want...)
	}
	if !slices.Equal(l, list("aac", "bbb", "aaa", "aaa")) {
		t.Errorf("written into: %v", l)
	}
}

func FuzzIndex(f *testing.F) {
	f.Add([]byte{}, "spo")
	f.Add([]byte{29, 3, 2, 3, 7}, "ops")
	f.Add([]byte{1}, "pp")
	f.Fuzz(func(t *testing.T, picks []byte, order string) {
		all := universe()
		var l []api.Triple
		for i, x := range all {
			if slices.Contains(picks, byte(i)) {
				l = append(l, x)
			}
		}
		if !slices.Contains(orders(), order) {
			wantNoIndex(t, l, order, api.ErrSyntax)
			order = "pos"
		}
		wantRising(t, l, order)
	})
}
