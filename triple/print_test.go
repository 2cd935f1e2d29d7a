package triple_test

import (
	"strings"
	"testing"
	"unsafe"

	"strataweb/api"
	"strataweb/plain"
	"strataweb/term"
	"strataweb/triple"
)

func TestPrintAndParse(t *testing.T) {
	full := strings.Repeat("a", api.MaxText)
	quotes := strings.Repeat(`"`, api.MaxText)
	a := named("a")
	for _, c := range []struct {
		t    api.Triple
		text string
	}{
		{names("abc"), "a b c"},
		{said(named("ex:a"), named("ex:b/c.d"), named("x0")), "ex:a ex:b/c.d x0"},
		{said(anon("1"), a, anon("b7")), "_1 a _b7"},
		{said(a, a, text("", "")), `a a ""`},
		{said(a, a, text(" ", "")), `a a " "`},
		{said(a, a, text("a b c", "en")), `a a "a b c"@en`},
		{said(a, a, text(`" a "`, "")), `a a "\" a \""`},
		{said(a, a, text(`\ `, "de")), `a a "\\ "@de`},
		{said(named(full), named(full), named(full)), full + " " + full + " " + full},
		{said(anon(full), a, text(full, "en")), "_" + full + ` a "` + full + `"@en`},
		{said(a, a, text(quotes, "")), `a a "` + strings.Repeat(`\"`, api.MaxText) + `"`},
	} {
		got, err := triple.Print(c.t)
		wantTold(t, c.t, err, api.OK)
		if got != c.text {
			t.Errorf("Print(%#v) = %q, want %q", c.t, got, c.text)
		}
		back, err := triple.Parse(c.text)
		wantTold(t, c.text, err, api.OK)
		if back != c.t {
			t.Errorf("Parse(%q) = %#v, want %#v", c.text, back, c.t)
		}
	}
}

func TestPrintTellsWhatCheckTells(t *testing.T) {
	long := strings.Repeat("a", api.MaxText+1)
	a := named("a")
	for _, c := range []struct {
		t    api.Triple
		want api.Errno
	}{
		{api.Triple{}, api.ErrRange},
		{said(a, a, api.Term{Kind: 4}), api.ErrRange},
		{said(named(long), a, a), api.ErrFull},
		{said(text("a", ""), a, named(long)), api.ErrFull},
		{said(a, named("A"), named(long)), api.ErrSyntax},
		{said(a, a, text("\n", "")), api.ErrSyntax},
		{said(text("a", ""), a, a), api.ErrShape},
		{said(a, anon("a"), a), api.ErrShape},
		{said(a, text("a", ""), a), api.ErrShape},
	} {
		got, err := triple.Print(c.t)
		wantTold(t, c.t, err, c.want)
		if got != "" {
			t.Errorf("Print(%#v) = %q, want none", c.t, got)
		}
	}
}

// wantNoTriple fails unless a text is told to be wrong, and no triple comes with that.
func wantNoTriple(t *testing.T, text string, want api.Errno) {
	t.Helper()
	got, err := triple.Parse(text)
	wantTold(t, text, err, want)
	if got != (api.Triple{}) {
		t.Errorf("Parse(%q) = %#v, want an empty triple", text, got)
	}
}

func TestParseSyntax(t *testing.T) {
	for _, s := range []string{
		"", " ", "  ", "   ", "a", "a b", "a b ", " a b", "a  b", "a b c ", " a b c", "a  b c", "a b  c", "a b c d",
		"a\tb\tc", "a b\tc", "a\nb\nc", "a b c\n", "a b c .", "a,b,c", "abc",
		"A b c", "a B c", "a b C", "0 b c", "a _ c", "_ b c", "a b _", "a b @en", "a b ?c", "a b 'c'",
		`a b "`, `a b "c`, `a b "c d`, `a b "c\"`, `a b "c"d`, `a b "c" d`, `a b "c"@`, `a b "c"@e`, `a b "c"@en `, `a b "c"@en d`, `a b "c" @en`,
		`"a b c`, `"a" b`, `"a"b c`, `"a" "b"`, `"a" "b" "c" "d"`, `"a""b" "c"`, `"a b" c`, `a "b c`, `a "b c" d e`, `a b"c d" e`,
		`a b "\c"`, "a b \"\n\"", "a b \xff", "a b c\x00", "a\x00b c",
	} {
		wantNoTriple(t, s, api.ErrSyntax)
	}
}

func TestParseFull(t *testing.T) {
	long := strings.Repeat("a", api.MaxText+1)
	huge := strings.Repeat("a", 100_000)
	for _, s := range []string{
		long + " b c", "a " + long + " c", "a b " + long,
		"_" + long + " b c", "a b _" + long, `a b "` + long + `"`, `a b "` + long + `"@en`,
		long + " " + long + " " + long,
		huge + " b c", "a " + huge + " c", `a b "` + huge + `"`,
		`a b "` + strings.Repeat(" ", api.MaxText+1) + `"`,
		`a b "` + strings.Repeat(`\" `, api.MaxText) + `"`,
	} {
		wantNoTriple(t, s, api.ErrFull)
	}
}

func TestParseShape(t *testing.T) {
	for _, s := range []string{
		`"a" b c`, `"" b c`, `"a b"@en b c`, `" " b " "`, `"\" " b c`, `"\\" b c`,
		"a _b c", `a "b" c`, `a "b c" d`, `a "b \" c"@en d`, `a "\\" c`, `"a" _b c`, `"a" "b" "c"`, `"a b" "c d" "e f"`,
	} {
		wantNoTriple(t, s, api.ErrShape)
	}
}

// ErrFull is told only of what is a triple but for lengths, wherever the other fault stands.
func TestParseLongAndWrong(t *testing.T) {
	long := strings.Repeat("a", api.MaxText+1)
	for _, s := range []string{
		long, long + " b", long + " b c d", long + "  b", long + " b C", "A " + long + " c", long + " B " + long,
		long + ` b "c`, `a b "` + long, `a b "` + long + `"@e`, `a b "` + long + `" `, "a b " + long + " ", long + "_ b c",
		"a b _" + long + ".", strings.Repeat(" ", 100), strings.Repeat(`"`, 100), strings.Repeat(`" `, 100), strings.Repeat("a ", 100),
	} {
		wantNoTriple(t, s, api.ErrSyntax)
	}
}

// A text with a length and a place that are both wrong is a triple neither but for the one nor but for the other.
func TestParseLongAndMisplaced(t *testing.T) {
	long := strings.Repeat("a", api.MaxText+1)
	for _, s := range []string{
		`"` + long + `" b c`, `"` + long + `"@en b c`, `"` + long + ` b" c d`, `"a" ` + long + " c", `"a" b ` + long, `"a" b "` + long + `"@en`,
		"a _" + long + " c", `a "` + long + `" c`, `a "` + long + ` b" c`, "a _b " + long, `a "b" _` + long, long + " _b c", "_" + long + ` "b" c`,
		`"a" _` + long + " c", `"a" "b" "` + long + `"`, `"` + long + `" _` + long + " " + long,
	} {
		wantNoTriple(t, s, api.ErrSyntax)
	}
}

// words are texts of terms of each kind, as long as may be and longer, and of none.
func words() []string {
	full := strings.Repeat("a", api.MaxText)
	return []string{
		"a", full, full + "a", "_1", "_" + full, "_" + full + "1",
		`"a b"`, `"` + full + `"@en`, `"` + full + ` "`, `"` + full + ` "@en`,
		"", "A", "_", `"a`, full + "A", "_" + full + "1.", `"` + full + ` "@e`,
	}
}

func TestParseOfAllWords(t *testing.T) {
	for _, s := range words() {
		for _, p := range words() {
			for _, o := range words() {
				wantParsed(t, s+" "+p+" "+o)
			}
		}
	}
}

// parsed says what a text is by all ways to cut it at two blanks: at most one of them makes three terms.
func parsed(s string) (api.Triple, api.Errno) {
	var found api.Triple
	told := api.ErrSyntax
	for i := range len(s) {
		for j := i + 1; j < len(s); j++ {
			if s[i] != ' ' || s[j] != ' ' {
				continue
			}
			x, bad := term.Parse(s[:i])
			y, worse := term.Parse(s[i+1 : j])
			z, worst := term.Parse(s[j+1:])
			e := []api.Errno{plain.Told(bad), plain.Told(worse), plain.Told(worst)}
			if e[0] == api.ErrSyntax || e[1] == api.ErrSyntax || e[2] == api.ErrSyntax {
				continue
			}
			long := e[0]+e[1]+e[2] != api.OK
			// Of a term that is too long there is no Kind to ask: its first byte says which.
			misplaced := s[0] == '"' || s[i+1] == '"' || s[i+1] == '_'
			switch {
			case long && misplaced:
				told = api.ErrSyntax
			case long:
				told = api.ErrFull
			case misplaced:
				told = api.ErrShape
			default:
				found, told = said(x, y, z), api.OK
			}
		}
	}
	return found, told
}

// wantParsed fails unless Parse says of a text what all ways to cut it say.
func wantParsed(t *testing.T, s string) {
	t.Helper()
	want, told := parsed(s)
	got, err := triple.Parse(s)
	wantTold(t, s, err, told)
	if got != want {
		t.Errorf("Parse(%q) = %#v, want %#v", s, got, want)
	}
}

func TestParseOfAllShortTexts(t *testing.T) {
	const bytes = `a_"\ `
	var grow func(s string)
	grow = func(s string) {
		wantParsed(t, s)
		if len(s) == 8 {
			return
		}
		for i := range len(bytes) {
			grow(s + bytes[i:i+1])
		}
	}
	grow("")
}

// What comes out is fresh memory: a triple keeps no long text alive.
func TestParseSharesNothing(t *testing.T) {
	given := `aaaa bbbb "cccc"@en`
	x, err := triple.Parse(given)
	wantTold(t, given, err, api.OK)
	first := uintptr(unsafe.Pointer(unsafe.StringData(given)))
	for _, s := range []string{x.S.S, x.P.S, x.O.S, x.O.Lang} {
		if at := uintptr(unsafe.Pointer(unsafe.StringData(s))); at >= first && at < first+uintptr(len(given)) {
			t.Errorf("%q is memory that Parse was given", s)
		}
	}
}

func FuzzParse(f *testing.F) {
	long := strings.Repeat("a", api.MaxText+1)
	for _, s := range []string{
		"", "a b c", `_a b "c d"@en`, `"a" b c`, `a "b c" d`, "a _b c", long + " b c", `a b "` + long + `"`, `"` + long + `" b c`, "a _b " + long, `a b "\" "`, "a b c ", "\xff a a",
	} {
		f.Add(s)
	}
	f.Fuzz(func(t *testing.T, s string) {
		if len(s) > 300 {
			return
		}
		wantParsed(t, s)
		if x, err := triple.Parse(s); err == nil {
			if back, err := triple.Print(x); back != s || err != nil {
				t.Errorf("Print(Parse(%q)) = %q, %v", s, back, err)
			}
		}
	})
}

func FuzzPrint(f *testing.F) {
	f.Add(api.Name, "a", api.Name, "b", api.Text, "c d", "en")
	f.Add(api.Anon, "a", api.Name, "b", api.Anon, "c", "")
	f.Add(api.Text, "a", api.Anon, "b", api.Text, `"\`, "")
	f.Fuzz(func(t *testing.T, sk int, s string, pk int, p string, ok int, o, lang string) {
		x := api.Triple{S: api.Term{Kind: sk, S: s}, P: api.Term{Kind: pk, S: p}, O: api.Term{Kind: ok, S: o, Lang: lang}}
		out, err := triple.Print(x)
		wantTold(t, x, err, plain.Told(triple.Check(x)))
		if err != nil {
			if out != "" {
				t.Errorf("Print(%#v) = %q, %v", x, out, err)
			}
			return
		}
		if back, err := triple.Parse(out); back != x || err != nil {
			t.Errorf("Parse(Print(%#v)) = %#v, %v", x, back, err)
		}
	})
}

func TestCutWord(t *testing.T) {
	for _, c := range []struct {
		text, word, rest string
		more             bool
	}{
		{"", "", "", false},
		{"a", "a", "", false},
		{" ", "", "", true},
		{"a ", "a", "", true},
		{" a", "", "a", true},
		{"a b c", "a", "b c", true},
		{"a  b", "a", " b", true},
		{`"a b"`, `"a b"`, "", false},
		{`"a b"@en c`, `"a b"@en`, "c", true},
		{`"a b"c" d`, `"a b"c"`, "d", true},
		{`"a \" b" c`, `"a \" b"`, "c", true},
		{`"a \\" b" c`, `"a \\"`, `b" c`, true},
		{`"a\ b" c`, `"a\ b"`, "c", true},
		// Quotes that stand within a word, or do not end, cut nothing off.
		{`a"b c"`, `a"b`, `c"`, true},
		{`"a b`, `"a b`, "", false},
		{`"a b\" c`, `"a b\" c`, "", false},
		{`"a b\`, `"a b\`, "", false},
		{"a\nb c", "a\nb", "c", true},
	} {
		word, rest, more := triple.CutWord(c.text)
		if word != c.word || rest != c.rest || more != c.more {
			t.Errorf("CutWord(%q) = %q, %q, %v, want %q, %q, %v", c.text, word, rest, more, c.word, c.rest, c.more)
		}
	}
}
