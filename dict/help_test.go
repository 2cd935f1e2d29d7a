package dict_test

import (
	"math"
	"slices"
	"strconv"
	"strings"
	"testing"

	"strataweb/api"
	"strataweb/dict"
	"strataweb/plain"
)

// named, anon and text make terms; said makes a triple of them.
func named(s string) api.Term { return api.Term{Kind: api.Name, S: s} }

func anon(s string) api.Term { return api.Term{Kind: api.Anon, S: s} }

func text(s, lang string) api.Term { return api.Term{Kind: api.Text, S: s, Lang: lang} }

func said(s, p, o api.Term) api.Triple { return api.Triple{S: s, P: p, O: o} }

// nth makes a Name, another one for each number.
func nth(n int) api.Term { return named("n" + strconv.Itoa(n)) }

// span makes Names, by numbers from one up to another one.
func span(from, to int) []api.Term {
	var l []api.Term
	for n := from; n < to; n++ {
		l = append(l, nth(n))
	}
	return l
}

// filled makes a Dict of these terms, in this order.
func filled(t *testing.T, terms []api.Term) *dict.Dict {
	t.Helper()
	d := dict.New()
	for i, x := range terms {
		wantAdd(t, d, x, i+1)
	}
	return d
}

// strange are numbers that no Dict gives.
func strange() []int {
	return []int{0, -1, -2, api.MaxObjects + 1, 1 << 32, 1<<32 + 1, math.MaxInt, math.MinInt, math.MinInt + 1}
}

// wrong is a term that Check tells of.
type wrong struct {
	x    api.Term
	want api.Errno
}

// wrongTerms are terms of all faults that Check tells of, and of several.
func wrongTerms() []wrong {
	long := strings.Repeat("a", api.MaxText+1)
	return []wrong{
		{api.Term{}, api.ErrRange},
		{api.Term{Kind: 4, S: "a"}, api.ErrRange},
		{api.Term{Kind: -1, S: long, Lang: "e"}, api.ErrRange},
		{named(long), api.ErrFull},
		{anon(strings.ToUpper(long)), api.ErrFull},
		{text(long, "en"), api.ErrFull},
		{named(""), api.ErrSyntax},
		{named("1"), api.ErrSyntax},
		{anon("A"), api.ErrSyntax},
		{text("\n", ""), api.ErrSyntax},
		{text("a", "e"), api.ErrSyntax},
		{api.Term{Kind: api.Name, S: "a", Lang: "en"}, api.ErrSyntax},
	}
}

// wantTold fails unless the error is just the one that is wanted, and nil where nothing is wrong.
func wantTold(t *testing.T, what any, err error, want api.Errno) {
	t.Helper()
	if got := plain.Told(err); got != want || (err == nil) != (want == api.OK) {
		t.Errorf("%v: told %v, want %v", what, err, want)
	}
}

// wantAdd fails unless Add answers this number.
func wantAdd(t *testing.T, d *dict.Dict, x api.Term, want int) {
	t.Helper()
	got, err := d.Add(x)
	wantTold(t, x, err, api.OK)
	if got != want {
		t.Errorf("Add(%v) = %d, want %d", x, got, want)
	}
}

// wantNoAdd fails unless Add tells this error, and no number.
func wantNoAdd(t *testing.T, d *dict.Dict, x api.Term, want api.Errno) {
	t.Helper()
	got, err := d.Add(x)
	wantTold(t, x, err, want)
	if got != 0 {
		t.Errorf("Add(%v) = %d, want 0", x, got)
	}
}

// wantPack fails unless Pack answers these numbers.
func wantPack(t *testing.T, d *dict.Dict, x api.Triple, want [3]int) {
	t.Helper()
	got, err := d.Pack(x)
	wantTold(t, x, err, api.OK)
	if got != want {
		t.Errorf("Pack(%v) = %v, want %v", x, got, want)
	}
}

// wantNoPack fails unless Pack tells this error, and no numbers.
func wantNoPack(t *testing.T, d *dict.Dict, x api.Triple, want api.Errno) {
	t.Helper()
	got, err := d.Pack(x)
	wantTold(t, x, err, want)
	if got != [3]int{} {
		t.Errorf("Pack(%v) = %v, want none", x, got)
	}
}

// wantOpen fails unless Open answers this triple.
func wantOpen(t *testing.T, d *dict.Dict, ids [3]int, want api.Triple) {
	t.Helper()
	got, err := d.Open(ids)
	wantTold(t, ids, err, api.OK)
	if got != want {
		t.Errorf("Open(%v) = %v, want %v", ids, got, want)
	}
}

// wantNoOpen fails unless Open tells this error, and no triple.
func wantNoOpen(t *testing.T, d *dict.Dict, ids [3]int, want api.Errno) {
	t.Helper()
	got, err := d.Open(ids)
	wantTold(t, ids, err, want)
	if got != (api.Triple{}) {
		t.Errorf("Open(%v) = %v, want none", ids, got)
	}
}

// wantNoId fails unless a term has no number.
func wantNoId(t *testing.T, d *dict.Dict, x api.Term) {
	t.Helper()
	got, err := d.Id(x)
	wantTold(t, x, err, api.ErrNone)
	if got != 0 {
		t.Errorf("Id(%v) = %d, want 0", x, got)
	}
}

// wantNoTerm fails unless a number is that of no term.
func wantNoTerm(t *testing.T, d *dict.Dict, id int) {
	t.Helper()
	got, err := d.Term(id)
	wantTold(t, id, err, api.ErrNone)
	if got != (api.Term{}) {
		t.Errorf("Term(%d) = %v, want none", id, got)
	}
}

// wantHeld fails unless a Dict has just these terms, by their places from 1 on.
func wantHeld(t *testing.T, d *dict.Dict, want []api.Term) {
	t.Helper()
	if d.Len() != len(want) {
		t.Errorf("Len() = %d, want %d", d.Len(), len(want))
	}
	for i, x := range want {
		id, err := d.Id(x)
		wantTold(t, x, err, api.OK)
		if id != i+1 {
			t.Errorf("Id(%v) = %d, want %d", x, id, i+1)
		}
		got, err := d.Term(i + 1)
		wantTold(t, i+1, err, api.OK)
		if got != x {
			t.Errorf("Term(%d) = %v, want %v", i+1, got, x)
		}
	}
	for _, id := range append(strange(), len(want)+1, len(want)+2, -len(want)) {
		if id < 1 || id > len(want) {
			wantNoTerm(t, d, id)
		}
	}
}

// added is what a Dict has that had these terms and came to know some more.
func added(held []api.Term, more ...api.Term) []api.Term {
	out := append([]api.Term(nil), held...)
	for _, x := range more {
		if !slices.Contains(out, x) {
			out = append(out, x)
		}
	}
	return out
}
