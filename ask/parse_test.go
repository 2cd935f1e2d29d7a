package ask_test

import (
	"slices"
	"strconv"
	"strings"
	"testing"
	"unsafe"

	"strataweb/api"
	"strataweb/ask"
	"strataweb/plain"
)

func TestParse(t *testing.T) {
	for _, w := range writtens() {
		got, at, err := ask.Parse(w.text)
		wantTold(t, w.text, err, api.OK)
		wantQuery(t, w.text, got, w.q)
		if at != 0 {
			t.Errorf("Parse(%q) told place %d", w.text, at)
		}
	}
}

func TestParseOfWordsThatCannotStand(t *testing.T) {
	for _, w := range []wrong{
		{"", 0, api.ErrSyntax},
		{" ", 0, api.ErrSyntax},
		{"ask", 0, api.ErrSyntax},
		{"Select ?x where ?x a b", 0, api.ErrSyntax},
		{" select ?x where ?x a b", 0, api.ErrSyntax},
		{"select\n?x where ?x a b", 0, api.ErrSyntax},
		{"distinct select ?x where ?x a b", 0, api.ErrSyntax},
		{"select x where ?x a b", 1, api.ErrSyntax},
		{"select  ?x where ?x a b", 1, api.ErrSyntax},
		{"select select ?x where ?x a b", 1, api.ErrSyntax},
		{"select ?x, ?y where ?x a ?y", 1, api.ErrSyntax},
		{"select ?x distinct where ?x a b", 2, api.ErrSyntax},
		{"select distinct distinct ?x where ?x a b", 2, api.ErrSyntax},
		{"select ?x and where ?x a b", 2, api.ErrSyntax},
		{"select ?x  where ?x a b", 2, api.ErrSyntax},
		{"select ?x where  ?x a b", 3, api.ErrSyntax},
		{"select ?x where ?x a b c", 6, api.ErrSyntax},
		{"select ?x where ?x a b ?x", 6, api.ErrSyntax},
		{"select ?x where ?x a b ", 6, api.ErrSyntax},
		{"select ?x where ?x a b\n", 5, api.ErrSyntax},
		{"select ?x where ?x a b where ?x a b", 6, api.ErrSyntax},
		{"select ?x where ?x a b down", 6, api.ErrSyntax},
		{"select ?x where ?x a b 5", 6, api.ErrSyntax},
		{"select ?x where ?x a and ?x a b", 6, api.ErrSyntax},
		{"select ?x where ?x a b order x", 7, api.ErrSyntax},
		{"select ?x where ?x a b order down", 7, api.ErrSyntax},
		{"select ?x where ?x a b order ?x ?x", 8, api.ErrSyntax},
		{"select ?x where ?x a b order ?x and ?x a b", 8, api.ErrSyntax},
		{"select ?x where ?x a b order ?x order ?x", 8, api.ErrSyntax},
		{"select ?x where ?x a b order ?x down down", 9, api.ErrSyntax},
		{"select ?x where ?x a b limit 5 order ?x", 8, api.ErrSyntax},
		{"select ?x where ?x a b limit 5 limit 5", 8, api.ErrSyntax},
		{"select ?x where ?x a b limit 5 ", 8, api.ErrSyntax},
		{"select ?x where ?x a b order ?x limit 5 down", 10, api.ErrSyntax},
		// The first one is told, whatever stands behind it.
		{"select ?X where 1 2 3 limit x", 1, api.ErrSyntax},
		{"select ?x where 1 2 3 limit x", 3, api.ErrSyntax},
		{"select ?x where ?x a 3 limit x", 5, api.ErrSyntax},
	} {
		wantWrong(t, w)
	}
}

// A text that ends too early is told behind its last word; that there is a blank at its end makes an empty word there.
func TestParseOfTextsThatEnd(t *testing.T) {
	const whole = "select distinct ?x ?y where ?x \"a b\"@en ?y and ?y b ?x order ?y down limit 12"
	right := []int{8, 12, 14, 15, 17}
	words := wordsOf(whole)
	for n := range len(words) + 1 {
		s := strings.Join(words[:n], " ")
		if !slices.Contains(right, n) {
			wantWrong(t, wrong{s, n, api.ErrSyntax})
		} else if _, at, err := ask.Parse(s); at != 0 || err != nil {
			t.Errorf("Parse(%q) told %d, %v", s, at, err)
		}
		if n > 0 {
			wantWrong(t, wrong{s + " ", n, api.ErrSyntax})
		}
	}
	if len(words) != right[4] {
		t.Errorf("%d words", len(words))
	}
}

// Without a variable a text has the form yet, and Check says what is wrong; without a part it ends too early, or takes what follows for one.
func TestParseOfNone(t *testing.T) {
	for _, w := range []wrong{
		{"select where ?x a b", 0, api.ErrNone},
		{"select distinct where ?x a b", 0, api.ErrNone},
		{"select where ?x a b limit 501", 0, api.ErrNone},
		{"select where ?x a b limit", 6, api.ErrSyntax},
		{"select where", 2, api.ErrSyntax},
		{"select ?x where", 3, api.ErrSyntax},
		{"select ?x where order ?x", 5, api.ErrSyntax},
		{"select ?x where limit 5", 4, api.ErrSyntax},
		{"select ?x where order ?x limit 5", 6, api.ErrSyntax},
		{"select ?x where ?x a b and", 7, api.ErrSyntax},
		{"select ?x where ?x a b and order ?x", 9, api.ErrSyntax},
		{"select ?x where ?x a b and limit 5", 8, api.ErrSyntax},
	} {
		wantWrong(t, w)
	}
}

// slotTexts are texts that have a word where a slot stands, and these places; varTexts have it where just a variable may stand.
func slotTexts(word string) map[string]int {
	return map[string]int{
		"select ?x where " + word + " ?x ?x":                      3,
		"select ?x where ?x " + word + " ?x":                      4,
		"select ?x where ?x ?x " + word:                           5,
		"select ?x where ?x a b and " + word + " a b":             7,
		"select ?x where ?x a b and a " + word + " b limit 3":     8,
		"select ?x where ?x a b and a b " + word + " and ?x ?x a": 9,
	}
}

func varTexts(word string) map[string]int {
	return map[string]int{
		"select " + word + " where ?x a b":                  1,
		"select " + word + " ?x where ?x a b":               1,
		"select distinct " + word + " ?x where ?x a b":      2,
		"select ?x " + word + " where ?x a b":               2,
		"select ?x where ?x a b order " + word:              7,
		"select ?x where ?x a b order " + word + " down":    7,
		"select ?x where ?x a b order " + word + " limit 5": 7,
	}
}

// A variable is `?` and one to ten letters, wherever it stands.
func TestParseVariables(t *testing.T) {
	for _, word := range []string{"?", "??", "?X", "?x1", "?1", "?_", "?x?", "??x", "?x.", "? ", "?\x00", "?x\n", "?é", "?\xff", "?elevenlette", "?" + strings.Repeat("x", 1000), "?\"x\"", "x?"} {
		for s, at := range slotTexts(word) {
			wantWrong(t, wrong{s, at, api.ErrSyntax})
		}
		for s, at := range varTexts(word) {
			wantWrong(t, wrong{s, at, api.ErrSyntax})
		}
	}
	// A term is none.
	for _, word := range []string{"x", "_x", `"x"`, `"?x"`, "where1", "down", "5", "distinct"} {
		for s, at := range varTexts(word) {
			if word != "distinct" || at != 1 {
				wantWrong(t, wrong{s, at, api.ErrSyntax})
			}
		}
	}
	for n := range api.MaxName {
		name := strings.Repeat("q", n) + "z"
		s := "select ?" + name + " where ?" + name + " a ?" + name + " order ?" + name
		q, _, err := ask.Parse(s)
		wantTold(t, s, err, api.OK)
		wantQuery(t, s, q, ordered(asking([]string{name}, part("?"+name, "a", "?"+name)), name, false))
	}
}

// What is no variable must be a term: one that is too long is none, too, and that is told as ErrSyntax.
func TestParseTerms(t *testing.T) {
	long := strings.Repeat("a", api.MaxText+1)
	for _, word := range []string{
		"", "1", "5", "A", "_", "__", "_A", "a_", "a@en", "-", "\"", "a\"", "\x00", "\xff",
		`"a`, `"a\"`, `"\a"`, `"a"@`, `"a"@e`, `"a"@EN`, `"a"b`, `"a""`, "\"\n\"", "a\tb", "a\nb",
		long, "_" + long, `"` + long + `"`, `"` + long + `"@en`, strings.Repeat("a", 100_000), `"` + strings.Repeat(`\"`, api.MaxText+1) + `"`,
	} {
		for s, at := range slotTexts(word) {
			wantWrong(t, wrong{s, at, api.ErrSyntax})
		}
	}
	for _, word := range []string{"a", "_1", `""`, `"a b"@en`, `"\""`, `"\\"`, `"\\ \" "`, `"?x"`, long[1:], "_" + long[1:], `"` + long[1:] + `"@en`, "and", "limit"} {
		for s := range slotTexts(word) {
			if _, at, err := ask.Parse(s); at != 0 || err != nil {
				t.Errorf("Parse(%q) told %d, %v", s, at, err)
			}
		}
	}
}

// Words are cut at each blank that is in no quotes, and these begin where a word does.
func TestParseCutsWords(t *testing.T) {
	const head = "select ?x where ?x "
	for _, w := range []wrong{
		{head + `"a b c`, 4, api.ErrSyntax},
		{head + `"a b\" c`, 4, api.ErrSyntax},
		{head + `"a b\\" c d`, 6, api.ErrSyntax},
		{head + `"a b\\\" c d`, 4, api.ErrSyntax},
		{head + `"a b\\\" c" d e`, 6, api.ErrSyntax},
		{head + `"a \ b" d e`, 4, api.ErrSyntax},
		{head + `"a"b c d`, 4, api.ErrSyntax},
		{head + `a "b"c d`, 5, api.ErrSyntax},
		{head + `a "b"@en" d`, 5, api.ErrSyntax},
		// Quotes within a word are none, nor do they go on.
		{head + `a" b"`, 4, api.ErrSyntax},
		{head + `a b"c d"`, 5, api.ErrSyntax},
		{head + `a b "c`, 6, api.ErrSyntax},
		{head + `a b "c d" e`, 6, api.ErrSyntax},
		{head + `"a" "b" "c d"`, 6, api.ErrSyntax},
		{head + `"a" "b"  "c d"`, 6, api.ErrSyntax},
		{head + `"a"  "b"`, 5, api.ErrSyntax},
		{head + `"a" "b`, 5, api.ErrSyntax},
		{head + `"a" "b\`, 5, api.ErrSyntax},
		{head + `"a" \" "`, 5, api.ErrSyntax},
		// Each quoted term is one word, however many blanks it has.
		{head + `"    " "a \" b" and x`, 8, api.ErrSyntax},
		{head + `"    " "a \" b" and "x y" " " "\\ \\" c`, 10, api.ErrSyntax},
		{`"select ?x" where ?x a b`, 0, api.ErrSyntax},
		{`select "?x where" ?x a b`, 1, api.ErrSyntax},
	} {
		wantWrong(t, w)
	}
}

func TestParseLimits(t *testing.T) {
	const head = "select ?x where ?x a b limit "
	for _, word := range []string{"", "-1", "-0", "+0", "+5", "00", "05", "0500", "0x5", "5.", "5.0", "1e2", "5_0", "1_000", "five", "?x", `"5"`, "5\n", "\t5", "٥", "-5", "--5", "-9223372036854775808", "-9223372036854775809"} {
		wantWrong(t, wrong{head + word, 7, api.ErrSyntax})
		wantWrong(t, wrong{"select ?x ?x where ?x a b order ?x limit " + word, 10, api.ErrSyntax})
	}
	for n, want := range limits() {
		s := head + strconv.Itoa(n)
		switch {
		case n < 0:
			// A limit that is none has no text.
			wantWrong(t, wrong{s, 7, api.ErrSyntax})
		case want != api.OK:
			wantWrong(t, wrong{s, 0, want})
		default:
			q, at, err := ask.Parse(s)
			wantTold(t, s, err, api.OK)
			wantQuery(t, s, q, limited(asking(vars("x"), part("?x", "a", "b")), n))
			if at != 0 {
				t.Errorf("Parse(%q) told place %d", s, at)
			}
		}
	}
}

// longNumbers are numbers that are written right, from the greatest int on, and such as would be small ones if an int went round.
func longNumbers() []string {
	nought := strings.Repeat("0", 300)
	return []string{
		"9223372036854775807", "9223372036854775808", "9223372036854775809",
		"18446744073709551615", "18446744073709551616", "18446744073709551619",
		"10000000000000000000", "99999999999999999999", "36893488147419103237",
		"340282366920938463463374607431768211461",
		"1" + nought, "5" + nought, strings.Repeat("9", 100), strings.Repeat("1234567890", 100),
	}
}

// A number can stand there however long it is: Check tells what is wrong with it, or the word behind it is the first that cannot stand there.
func TestParseLongLimits(t *testing.T) {
	const head = "select ?x where ?x a b limit "
	for _, word := range longNumbers() {
		for _, w := range []wrong{
			{head + word, 0, api.ErrRange},
			{"select distinct ?x where ?x a b order ?x down limit " + word, 0, api.ErrRange},
			// What Check names ahead of it is told.
			{"select where ?x a b limit " + word, 0, api.ErrNone},
			{"select ?y where ?x a b limit " + word, 0, api.ErrNone},
			{"select ?x ?x where ?x a b limit " + word, 0, api.ErrClash},
			{"select ?x where ?x a ?y order ?y limit " + word, 0, api.ErrNone},
			{"select ?x where ?x a b" + strings.Repeat(" and ?x a b", api.MaxParts) + " limit " + word, 0, api.ErrFull},
			{head + word + " ", 8, api.ErrSyntax},
			{head + word + " 3", 8, api.ErrSyntax},
			{head + word + " " + word, 8, api.ErrSyntax},
			{head + word + " order ?x", 8, api.ErrSyntax},
			// These are no such numbers.
			{head + "0" + word, 7, api.ErrSyntax},
			{head + "00" + word, 7, api.ErrSyntax},
			{head + "-" + word, 7, api.ErrSyntax},
			{head + "+" + word, 7, api.ErrSyntax},
			{head + word + "x", 7, api.ErrSyntax},
			{head + "x" + word, 7, api.ErrSyntax},
			{head + word + ".", 7, api.ErrSyntax},
			{head + word + "_0", 7, api.ErrSyntax},
			{head + word + "e2", 7, api.ErrSyntax},
			{head + word[:9] + "-" + word[9:], 7, api.ErrSyntax},
			{head + word + "\xff", 7, api.ErrSyntax},
			{head + strings.Repeat("0", len(word)), 7, api.ErrSyntax},
			{head + "-" + word + " 3", 7, api.ErrSyntax},
			// It can stand nowhere else.
			{"select ?x where ?x a " + word, 5, api.ErrSyntax},
			{"select ?x where ?x a b " + word, 6, api.ErrSyntax},
			{"select ?x where ?x a b order " + word, 7, api.ErrSyntax},
		} {
			wantWrong(t, w)
		}
	}
}

// What has the form is held against Check, whose errors are told at 0.
func TestParseTellsWhatCheckTells(t *testing.T) {
	const six = "?x a b and ?x a b and ?x a b and ?x a b and ?x a b and ?x a b"
	for _, w := range []wrong{
		{"select ?x where " + six + " and ?x a b", 0, api.ErrFull},
		{"select ?y ?y where " + six + " and ?x a b order ?z limit 501", 0, api.ErrFull},
		{"select ?a where ?a ?b ?c and ?d ?e ?f and ?g ?h ?i", 0, api.ErrFull},
		{"select ?z where ?a ?b ?c and ?d ?e ?f and ?g ?h ?i", 0, api.ErrFull},
		{"select ?y where ?x a b", 0, api.ErrNone},
		{"select ?x ?y where ?x a b limit 501", 0, api.ErrNone},
		{"select ?x where a b c", 0, api.ErrNone},
		{"select ?x where x x x", 0, api.ErrNone},
		{`select ?x where "?x" x x`, 0, api.ErrNone},
		{"select ?x ?x where ?x a b", 0, api.ErrClash},
		{"select ?x ?x ?y where ?x a b", 0, api.ErrNone},
		{"select distinct ?x ?y ?x where ?x a ?y order ?z", 0, api.ErrClash},
		{"select ?x where ?x a ?y order ?y", 0, api.ErrNone},
		{"select ?x where ?x a ?y order ?y down limit 501", 0, api.ErrNone},
		{"select ?x where ?x a b limit 501", 0, api.ErrRange},
		{"select ?x where ?x a b order ?x down limit 9223372036854775807", 0, api.ErrRange},
		// The form comes ahead of it, wherever it is broken.
		{"select ?x where " + six + " and ?x a", 29, api.ErrSyntax},
		{"select ?y ?y where ?x a b limit x", 8, api.ErrSyntax},
		{"select where ?x a b order ?y ?y", 7, api.ErrSyntax},
		{"select ?x where ?x a b order ?y limit 0501", 9, api.ErrSyntax},
	} {
		wantWrong(t, w)
	}
}

// pool are words of each kind that may stand somewhere, and some that may not.
func pool() []string {
	return []string{"select", "distinct", "where", "and", "order", "down", "limit", "?x", "b", `"a b"@en`, "5", "", "?"}
}

// All texts of a few words behind a beginning are held against the form.
func TestParseOfAllFewWords(t *testing.T) {
	b := begins{}
	for _, start := range []string{
		"", "select ?x where ?x", "select ?x where ?x and order", "select ?x where ?x a b and a b",
		"select where order ?x down order", "select ?x ?x where ?x a b order ?x", "select ?x where ?x b b limit",
	} {
		for _, l := range lists(pool(), 4) {
			s := strings.Join(l, " ")
			if start != "" && len(l) > 0 {
				s = " " + s
			}
			wantRead(t, b, start+s)
		}
	}
}

// All texts of a few bytes that matter stand in a query's places of slots.
func TestParseOfAllFewBytes(t *testing.T) {
	b := begins{}
	for _, l := range lists([]string{`"`, `\`, " ", "a", "?"}, 6) {
		s := strings.Join(l, "")
		wantRead(t, b, "select ?a where ?a "+s)
		wantRead(t, b, "select ?a where ?a "+s+" ?a")
		wantRead(t, b, `select ?a where "\"`+s+`" ?a`)
	}
}

// examples are texts with words of all kinds.
func examples() []string {
	return []string{
		"select distinct ?x ?y where ?x a/b.c \"a b\\\"\\\\\"@en and _b7 ?y \"\" order ?y down limit 120",
		"select ?a where ?a ?b ?c and ?d ?e ?f and ?g ?h a and ?a b c and ?a b c and ?a b \"limit 5\"",
		"select ?x where order ?x limit order ?x limit 0",
		"select ?x where ?x a b limit 9223372036854775807",
	}
}

// Each other byte at each place of a text, one more, and one less, is another query, or wrong where the form says.
func TestParseOfAllBytes(t *testing.T) {
	b := begins{}
	for _, whole := range examples() {
		wantRead(t, b, whole)
		for i := range len(whole) + 1 {
			wantRead(t, b, whole[:i])
			for n := range 256 {
				one := string([]byte{byte(n)})
				wantRead(t, b, whole[:i]+one+whole[i:])
				if i < len(whole) {
					wantRead(t, b, whole[:i]+one+whole[i+1:])
				}
			}
			if i < len(whole) {
				wantRead(t, b, whole[:i]+whole[i+1:])
			}
		}
	}
}

// Pieces at each place of a text, with or without the byte there.
func TestParseOfPieces(t *testing.T) {
	b := begins{}
	for _, whole := range examples() {
		for i := range whole {
			for _, piece := range []string{"and", " and ", "order ", " order ?x", "down", "limit 3", " limit 3 ", "where ", "select ", "distinct ", "?x ", " ?y", "\" \"", "\\\"", "  ", "5 ", " _1"} {
				wantRead(t, b, whole[:i]+piece+whole[i:])
				wantRead(t, b, whole[:i]+piece+whole[i+1:])
			}
		}
	}
}

// Long texts are read to their first fault, in steps that grow no faster than they do.
func TestParseOfLongTexts(t *testing.T) {
	const many = 200_000
	again := func(s string) string { return strings.Repeat(s, many) }
	for _, w := range []wrong{
		{again(" "), 0, api.ErrSyntax},
		{again("select "), 1, api.ErrSyntax},
		{again(`"`), 0, api.ErrSyntax},
		{"select" + again(" ?x"), many + 1, api.ErrSyntax},
		{"select" + again(" ?x") + " where ?x a b", 0, api.ErrClash},
		{"select" + again(" ?x") + " ?y where ?x a b", 0, api.ErrNone},
		{"select ?x where ?x a b" + again(" and ?x a b"), 0, api.ErrFull},
		{"select ?x where ?x a b" + again(" and ?x a b") + " and", 4*many + 7, api.ErrSyntax},
		{`select ?x where ?x a "` + again(`\" `), 5, api.ErrSyntax},
		{`select ?x where ?x a "` + again(`\" `) + `"`, 5, api.ErrSyntax},
		{"select ?x where ?x a b" + again(" "), 6, api.ErrSyntax},
		{"select ?x where ?x a b limit " + again("9"), 0, api.ErrRange},
		{"select ?x where ?x a b limit " + again("9") + "x", 7, api.ErrSyntax},
		{"select ?x where ?x a b limit " + again("0"), 7, api.ErrSyntax},
	} {
		wantWrong(t, w)
	}
}

// What comes out is fresh memory: nothing of it keeps the text alive, and no two answers share a list.
func TestParseMemory(t *testing.T) {
	given := "select ?xxxx ?yyyy where ?xxxx aaaa _bbbb and \"cccc\"@en ?yyyy dddd order ?yyyy limit 5"
	q, _, err := ask.Parse(given)
	wantTold(t, given, err, api.OK)
	texts := append([]string{q.Order}, q.Vars...)
	for _, p := range q.Parts {
		for _, s := range []api.Slot{p.S, p.P, p.O} {
			texts = append(texts, s.Var, s.Term.S, s.Term.Lang)
		}
	}
	first := uintptr(unsafe.Pointer(unsafe.StringData(given)))
	for _, s := range texts {
		if at := uintptr(unsafe.Pointer(unsafe.StringData(s))); s != "" && at >= first && at < first+uintptr(len(given)) {
			t.Errorf("%q is memory that Parse was given", s)
		}
	}
	clear(q.Vars[:cap(q.Vars)])
	clear(q.Parts[:cap(q.Parts)])
	again, _, err := ask.Parse(given)
	wantTold(t, given, err, api.OK)
	if s, err := ask.Print(again); s != given || err != nil {
		t.Errorf("Print = %q, %v, want %q", s, err, given)
	}
}

func FuzzParse(f *testing.F) {
	for _, w := range writtens() {
		f.Add(w.text)
	}
	for _, s := range append(examples(), "", " ", "select", "select where", "select ?x ?x where ?x a b", "select ?x where ?x a b limit 501", "select ?x where ?x a b limit 18446744073709551619", `select ?x where "a\" b`) {
		f.Add(s)
	}
	f.Fuzz(func(t *testing.T, s string) { wantRead(t, begins{}, s) })
}

func FuzzPrint(f *testing.F) {
	f.Add("x", "y", "x", true, false, 5, "x", "", api.Name, "a", "")
	f.Add("x", "x", "", false, true, -1, "y", "x", 0, "", "en")
	f.Add("y", "x", "z", true, true, 501, "", "x", api.Text, "\"\\", "en")
	f.Fuzz(func(t *testing.T, one, two, order string, down, isDistinct bool, limit int, s, p string, kind int, o, lang string) {
		q := api.Query{
			Vars:  []string{one, two},
			Parts: []api.Pattern{shape(free(s), free(p), just(api.Term{Kind: kind, S: o, Lang: lang})), part("?x", "?y", "a")},
			Order: order, Down: down, Distinct: isDistinct, Limit: limit,
		}
		shown, err := ask.Print(q)
		if err != nil {
			wantUnprinted(t, q, plain.Told(ask.Check(q)))
			return
		}
		got, at, err := ask.Parse(shown)
		wantTold(t, shown, err, api.OK)
		wantQuery(t, shown, got, q)
		if at != 0 {
			t.Errorf("Parse(%q) told place %d", shown, at)
		}
	})
}
