package term_test

import (
	"strings"
	"testing"
	"unsafe"

	"strataweb/api"
	"strataweb/plain"
	"strataweb/term"
)

func TestPrintAndParse(t *testing.T) {
	full := strings.Repeat("a", api.MaxText)
	for _, c := range []struct {
		t    api.Term
		text string
	}{
		{named("a"), "a"},
		{named("ex:a/b.c0"), "ex:a/b.c0"},
		{named(full), full},
		{anon("b7"), "_b7"},
		{anon("0"), "_0"},
		{anon(full), "_" + full},
		{text("", ""), `""`},
		{text("", "en"), `""@en`},
		{text("a b", "en"), `"a b"@en`},
		{text(`"`, ""), `"\""`},
		{text(`\`, ""), `"\\"`},
		{text(`\"`, "de"), `"\\\""@de`},
		{text(`a"@en`, ""), `"a\"@en"`},
		{text("_@~", ""), `"_@~"`},
		{text(full, "en"), `"` + full + `"@en`},
		{text(strings.Repeat(`"`, api.MaxText), ""), `"` + strings.Repeat(`\"`, api.MaxText) + `"`},
	} {
		got, err := term.Print(c.t)
		wantTold(t, c.t, err, api.OK)
		if got != c.text {
			t.Errorf("Print(%#v) = %q, want %q", c.t, got, c.text)
		}
		back, err := term.Parse(c.text)
		wantTold(t, c.text, err, api.OK)
		if back != c.t {
			t.Errorf("Parse(%q) = %#v, want %#v", c.text, back, c.t)
		}
	}
}

func TestPrintTellsWhatCheckTells(t *testing.T) {
	long := strings.Repeat("a", api.MaxText+1)
	for _, x := range []api.Term{
		{}, {Kind: 4, S: "a"}, {Kind: -1, S: long},
		named(long), anon(long), text(long, ""), text(long, "?"),
		named(""), named("1"), anon(""), anon("_"), text("\n", ""), text("a", "e"),
		{Kind: api.Name, S: "a", Lang: "en"}, {Kind: api.Anon, S: "a", Lang: "en"},
	} {
		got, err := term.Print(x)
		if got != "" || err == nil {
			t.Errorf("Print(%#v) = %q, %v, want an error alone", x, got, err)
		}
		wantTold(t, x, err, plain.Told(term.Check(x)))
	}
}

// wantNoTerm fails unless a text is told to be wrong, and no term comes with that.
func wantNoTerm(t *testing.T, text string, want api.Errno) {
	t.Helper()
	got, err := term.Parse(text)
	wantTold(t, text, err, want)
	if got != (api.Term{}) {
		t.Errorf("Parse(%q) = %#v, want an empty term", text, got)
	}
}

func TestParseSyntax(t *testing.T) {
	for _, s := range []string{
		"", " ", "0", "A", "a ", " a", "a\n", "a_", "a@en", ":a", "a\"", "\xff", "a\x00",
		"_", "__", "_ ", "_A", "_a.b", "_a@en", "_a\n", "_\"a\"",
		`"`, `"a`, `"\`, `"\"`, `"\a"`, `"\n"`, `"a\`, `"a"b`, `"a" `, `"a""`, `""""`,
		`"a"@`, `"a"@e`, `"a"@eng`, `"a"@EN`, `"a"@e1`, `"a"@@n`, `"a"@en `, `"a"@en"`, `"a"en`, `"a"_@en`,
		"\"\n\"", "\"\x1f\"", "\"\x7f\"", "\"\x80\"", "\"\\\n\"", "@en", "'a'",
	} {
		wantNoTerm(t, s, api.ErrSyntax)
	}
}

func TestParseFull(t *testing.T) {
	long := strings.Repeat("a", api.MaxText+1)
	huge := strings.Repeat("a", 100_000)
	for _, s := range []string{
		long, huge, "a" + strings.Repeat(".", api.MaxText),
		"_" + long, "_" + huge, "_" + strings.Repeat("0", api.MaxText+1),
		`"` + long + `"`, `"` + long + `"@en`, `"` + huge + `"@en`,
		`"` + strings.Repeat(`\"`, api.MaxText+1) + `"`,
		`"` + strings.Repeat(`\\`, api.MaxText) + ` "@de`,
	} {
		wantNoTerm(t, s, api.ErrFull)
	}
}

// ErrFull is told only of what is a term but for its length.
func TestParseLongAndWrong(t *testing.T) {
	long := strings.Repeat("a", api.MaxText+1)
	for _, s := range []string{
		"0" + long, long + " ", long + "A", " " + long,
		"_" + long + ".", "_" + long + "@en",
		`"` + long, `"` + long + `\`, `"` + long + `\a"`, `"` + long + "\n\"",
		`"` + long + `"@`, `"` + long + `"@EN`, `"` + long + `"@eng`, `"` + long + `" `,
		strings.Repeat(`"`, 100), strings.Repeat(`\`, 100), strings.Repeat("_", 100),
	} {
		wantNoTerm(t, s, api.ErrSyntax)
	}
}

// ParseAnyLength says what Parse says but for lengths.
func TestParseAnyLength(t *testing.T) {
	long := strings.Repeat("a", 3*api.MaxText)
	for _, c := range []struct {
		text string
		want api.Term
		told api.Errno
	}{
		{"a", named("a"), api.OK},
		{long, named(long), api.OK},
		{"_" + long, anon(long), api.OK},
		{`"` + long + `\""@en`, text(long+`"`, "en"), api.OK},
		{"", api.Term{}, api.ErrSyntax},
		{long + "A", api.Term{}, api.ErrSyntax},
		{"_" + long + ".", api.Term{}, api.ErrSyntax},
		{`"` + long, api.Term{}, api.ErrSyntax},
		{`"` + long + `"@e`, api.Term{}, api.ErrSyntax},
	} {
		got, err := term.ParseAnyLength(c.text)
		wantTold(t, c.text, err, c.told)
		if got != c.want {
			t.Errorf("ParseAnyLength(%q) = %#v, want %#v", c.text, got, c.want)
		}
	}
}

// eachOver calls with all texts of at most so many of these bytes.
func eachOver(bytes string, most int, call func(s string)) {
	var grow func(s string)
	grow = func(s string) {
		call(s)
		if len(s) == most {
			return
		}
		for i := range len(bytes) {
			grow(s + bytes[i:i+1])
		}
	}
	grow("")
}

// Just what Print writes is read: all short texts over bytes that matter are held against all short terms.
func TestParseReadsJustWhatPrintWrites(t *testing.T) {
	const bytes = "a0_:\"\\@ \n"
	const most = 6
	terms := map[string]api.Term{}
	eachOver(bytes, most, func(s string) {
		for _, x := range []api.Term{named(s), anon(s), text(s, ""), text(s, "aa")} {
			if p, err := term.Print(x); err == nil && len(p) <= most {
				if old, ok := terms[p]; ok {
					t.Errorf("%#v and %#v are both written %q", old, x, p)
				}
				terms[p] = x
			}
		}
	})
	if len(terms) == 0 {
		t.Fatal("no term was written")
	}
	eachOver(bytes, most, func(s string) {
		want, ok := terms[s]
		got, err := term.Parse(s)
		if ok != (err == nil) || got != want {
			t.Errorf("Parse(%q) = %#v, %v, want %#v", s, got, err, want)
		}
		if err != nil && plain.Told(err) != api.ErrSyntax {
			t.Errorf("Parse(%q) told %v", s, err)
		}
	})
}

// What comes out is fresh memory: a short term keeps no long text alive.
func TestAnswersShareNothing(t *testing.T) {
	apart := func(a, b string) bool {
		return unsafe.StringData(a) != unsafe.StringData(b)
	}
	given := strings.Repeat("a", 10)
	if out, _ := term.Print(named(given)); !apart(out, given) {
		t.Error("Print answers the memory that it was given")
	}
	if out, _ := term.Parse(given); !apart(out.S, given) {
		t.Error("Parse answers the memory that it was given")
	}
	given = "_" + given
	if out, _ := term.Parse(given); !apart(out.S, given[1:]) {
		t.Error("Parse answers the memory that it was given")
	}
	given = `"` + given + `"@en`
	out, _ := term.Parse(given)
	if !apart(out.S, given[1:]) || !apart(out.Lang, given[len(given)-2:]) {
		t.Error("Parse answers the memory that it was given")
	}
}

func FuzzParse(f *testing.F) {
	for _, s := range []string{"", "a", "_b7", `"a \"b\\"@en`, `"`, `"\`, "\xff", strings.Repeat("a", 30)} {
		f.Add(s)
	}
	f.Fuzz(func(t *testing.T, s string) {
		x, err := term.Parse(s)
		if err != nil {
			if e := plain.Told(err); x != (api.Term{}) || e != api.ErrSyntax && e != api.ErrFull {
				t.Errorf("Parse(%q) = %#v, %v", s, x, err)
			}
			return
		}
		if back, err := term.Print(x); back != s || err != nil {
			t.Errorf("Print(Parse(%q)) = %q, %v", s, back, err)
		}
	})
}

func FuzzPrint(f *testing.F) {
	f.Add(api.Name, "a", "")
	f.Add(api.Anon, "0", "en")
	f.Add(api.Text, "a\"\\", "en")
	f.Add(0, "\xff", "\x00")
	f.Fuzz(func(t *testing.T, kind int, s, lang string) {
		x := api.Term{Kind: kind, S: s, Lang: lang}
		out, err := term.Print(x)
		wantTold(t, x, err, plain.Told(term.Check(x)))
		if err != nil {
			if out != "" {
				t.Errorf("Print(%#v) = %q, %v", x, out, err)
			}
			return
		}
		if back, err := term.Parse(out); back != x || err != nil {
			t.Errorf("Parse(Print(%#v)) = %#v, %v", x, back, err)
		}
	})
}
