package term_test

import (
	"math"
	"strings"
	"testing"

	"strataweb/api"
	"strataweb/plain"
	"strataweb/term"
)

// named, anon and text make terms; a Lang is told where there is one.
func named(s string) api.Term { return api.Term{Kind: api.Name, S: s} }

func anon(s string) api.Term { return api.Term{Kind: api.Anon, S: s} }

func text(s, lang string) api.Term { return api.Term{Kind: api.Text, S: s, Lang: lang} }

// wantTold fails unless the error is just the one that is wanted, and nil where nothing is wrong.
func wantTold(t *testing.T, what any, err error, want api.Errno) {
	t.Helper()
	if got := plain.Told(err); got != want || (err == nil) != (want == api.OK) {
		t.Errorf("%#v: told %v, want %v", what, err, want)
	}
}

func TestCheck(t *testing.T) {
	full := strings.Repeat("a", api.MaxText)
	for _, c := range []struct {
		t    api.Term
		want api.Errno
	}{
		{named("a"), api.OK},
		{named("ex:a/b.c0"), api.OK},
		{named("a:/."), api.OK},
		{named(full), api.OK},
		{named(""), api.ErrSyntax},
		{named("0a"), api.ErrSyntax},
		{named(":a"), api.ErrSyntax},
		{named("a_b"), api.ErrSyntax},
		{named("aB"), api.ErrSyntax},
		{named("a b"), api.ErrSyntax},
		{named("a\xc3\xa9"), api.ErrSyntax},
		{anon("a"), api.OK},
		{anon("0"), api.OK},
		{anon("b7"), api.OK},
		{anon(full), api.OK},
		{anon(""), api.ErrSyntax},
		{anon("a.b"), api.ErrSyntax},
		{anon("_a"), api.ErrSyntax},
		{text("", ""), api.OK},
		{text("", "en"), api.OK},
		{text(" ~\"\\", "de"), api.OK},
		{text(full, "en"), api.OK},
		{text("\x1f", ""), api.ErrSyntax},
		{text("\x7f", ""), api.ErrSyntax},
		{text("\n", ""), api.ErrSyntax},
		{text("\x00", ""), api.ErrSyntax},
		{text("a", "e"), api.ErrSyntax},
		{text("a", "eng"), api.ErrSyntax},
		{text("a", "EN"), api.ErrSyntax},
		{text("a", "e1"), api.ErrSyntax},
		{text("a", "1e"), api.ErrSyntax},
		{text("a", "\xc3\xa9"), api.ErrSyntax},
		{api.Term{Kind: api.Name, S: "a", Lang: "en"}, api.ErrSyntax},
		{api.Term{Kind: api.Anon, S: "a", Lang: "en"}, api.ErrSyntax},
		{api.Term{}, api.ErrRange},
	} {
		wantTold(t, c.t, term.Check(c.t), c.want)
	}
}

func TestCheckKinds(t *testing.T) {
	for _, kind := range []int{math.MinInt, -1, 0, 4, 5, 7, 257, 1 << 32, 1<<32 + 1, math.MaxInt} {
		x := api.Term{Kind: kind, S: "a"}
		wantTold(t, x, term.Check(x), api.ErrRange)
	}
}

// Where several faults apply, the one that the chapter names first is told.
func TestCheckTellsTheFirst(t *testing.T) {
	long := strings.Repeat("a", api.MaxText+1)
	bad := strings.Repeat("\n", api.MaxText+1)
	for _, c := range []struct {
		t    api.Term
		want api.Errno
	}{
		{api.Term{Kind: 0, S: long}, api.ErrRange},
		{api.Term{Kind: 4, S: bad, Lang: "?"}, api.ErrRange},
		{api.Term{Kind: -1, S: "", Lang: "?"}, api.ErrRange},
		{named(long), api.ErrFull},
		{named(bad), api.ErrFull},
		{anon(long), api.ErrFull},
		{anon(bad), api.ErrFull},
		{text(long, ""), api.ErrFull},
		{text(bad, "?"), api.ErrFull},
		{api.Term{Kind: api.Name, S: long, Lang: "en"}, api.ErrFull},
	} {
		wantTold(t, c.t, term.Check(c.t), c.want)
	}
}

// told says whether a byte stands in a list of those that may be.
func told(may string, b byte) api.Errno {
	if strings.IndexByte(may, b) >= 0 {
		return api.OK
	}
	return api.ErrSyntax
}

func TestCheckEachByte(t *testing.T) {
	const letters = "abcdefghijklmnopqrstuvwxyz"
	const digits = "0123456789"
	var shown []byte
	for b := byte(32); b <= 126; b++ {
		shown = append(shown, b)
	}
	for n := range 256 {
		b := byte(n)
		s := string([]byte{b})
		for _, c := range []struct {
			t   api.Term
			may string
		}{
			{named(s), letters},
			{named("a" + s), letters + digits + ":/."},
			{named("a" + s + "a"), letters + digits + ":/."},
			{anon(s), letters + digits},
			{anon("a" + s), letters + digits},
			{text(s, ""), string(shown)},
			{text("a"+s+"a", "en"), string(shown)},
			{text("a", "e"+s), letters},
			{text("a", s+"e"), letters},
		} {
			wantTold(t, c.t, term.Check(c.t), told(c.may, b))
		}
	}
}

func TestCheckEachLength(t *testing.T) {
	for n := range 3 * api.MaxText {
		s := strings.Repeat("a", n)
		want := api.OK
		if n > api.MaxText {
			want = api.ErrFull
		}
		wantTold(t, n, term.Check(text(s, "")), want)
		if n == 0 {
			want = api.ErrSyntax
		}
		wantTold(t, n, term.Check(named(s)), want)
		wantTold(t, n, term.Check(anon(s)), want)
	}
}

// rising are terms, right or not, each below the next one.
func rising() []api.Term {
	return []api.Term{
		{Kind: math.MinInt, S: "z", Lang: "zz"},
		{Kind: -1},
		{},
		{Kind: 0, Lang: "a"},
		{Kind: 0, S: "a"},
		named(""),
		named("A"),
		named("a"),
		{Kind: api.Name, S: "a", Lang: "en"},
		named("a\x00"),
		named("a0"),
		named("aa"),
		named("b"),
		named("b\x80"),
		named("b\xff"),
		named("\xc3\xa9"),
		anon("1"),
		anon("a"),
		text("", ""),
		text("", "en"),
		text("a", ""),
		text("a", "de"),
		text("a", "en"),
		text("a", "en\x00"),
		text("a", "\xff"),
		text("aa", ""),
		text(strings.Repeat("b", 100), ""),
		text(strings.Repeat("b", 101), ""),
		{Kind: 4},
		{Kind: math.MaxInt},
	}
}

func TestCompare(t *testing.T) {
	l := rising()
	for i, a := range l {
		for j, b := range l {
			want := 0
			if i < j {
				want = -1
			} else if i > j {
				want = 1
			}
			if got := term.Compare(a, b); got != want {
				t.Errorf("Compare(%#v, %#v) = %d, want %d", a, b, got, want)
			}
		}
	}
}
