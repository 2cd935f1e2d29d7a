package run_test

import (
	"strconv"
	"strings"
	"testing"

	"strataweb/api"
	"strataweb/run"
)

// step is a line, and what is answered to it.
type step struct{ line, answer string }

// wantSession fails unless each line has its answer, and those to the first lines are the beginning of all, whether or not the last of them ends.
func wantSession(t testing.TB, steps ...step) {
	t.Helper()
	text, want := "", ""
	for i, s := range steps {
		text += s.line
		want += s.answer + "\n"
		if got := run.Run(text); got != want && s.line != "" {
			t.Fatalf("line %d, %q, without its end: got\n%swant\n%s", i, s.line, got, want)
		}
		text += "\n"
		if got := run.Run(text); got != want {
			t.Fatalf("line %d, %q: got\n%swant\n%s", i, s.line, got, want)
		}
	}
}

// wantRun fails unless just this is answered to a text.
func wantRun(t testing.TB, text, want string) {
	t.Helper()
	if got := run.Run(text); got != want {
		t.Errorf("%.100q: got %.100q, want %.100q", text, got, want)
	}
}

// allNew are steps that add triples which are not there.
func allNew(triples ...string) []step {
	var out []step
	for _, x := range triples {
		out = append(out, step{"add " + x, "new"})
	}
	return out
}

// short is one of many triples of six bytes, by its number.
func short(n int) string {
	return string(rune('a'+n%26)) + " " + string(rune('a'+n/26)) + " a"
}

// shorts are the first of these.
func shorts(size int) []string {
	var out []string
	for n := range size {
		out = append(out, short(n))
	}
	return out
}

// lines are some lines as a text.
func lines(l ...string) string { return strings.Join(l, "\n") + "\n" }

// added is a text that adds triples.
func added(triples []string) string { return "add " + strings.Join(triples, "\nadd ") + "\n" }

// counted are the numbers from 0 up to one, each on a line.
func counted(size int) string {
	out := ""
	for n := range size {
		out += strconv.Itoa(n) + "\n"
	}
	return out
}

// fault is a text that a row refuses, and why.
type fault struct{ text, told string }

// nameFaults are texts that no branch may have as a name.
func nameFaults() []fault {
	var out []fault
	for _, s := range []string{"", " ", " m", "m ", "m n", "M", "mM", "m1", "m.", "m\r", "m\t", "m\x00", "\u00e9", "\xff", strings.Repeat("m", api.MaxName+1), strings.Repeat("m", 2000)} {
		out = append(out, fault{s, "ErrSyntax"})
	}
	return out
}

// tripleFaults are texts of no triple.
func tripleFaults() []fault {
	out := []fault{{`"a" p a`, "ErrShape"}, {"a _p a", "ErrShape"}, {`a "p" a`, "ErrShape"}}
	for _, s := range []string{"", " ", "a", "a p", "a p ", " a p a", "a  p a", "a p  a", "a p a ", "a p a a", "A p a", "a p a\r", "a p\ta", `a p "a`, `a p "a"@e`, "a p _", "a p \u00e9", "\xff p a"} {
		out = append(out, fault{s, "ErrSyntax"})
	}
	long := strings.Repeat("a", api.MaxText+1)
	for _, s := range []string{long + " p a", "a " + long + " a", "a p " + long, "a p _" + long, `a p "` + long + `"`} {
		out = append(out, fault{s, "ErrFull"})
	}
	return out
}

// queryFaults are texts of no question.
func queryFaults() []fault {
	many := "select ?a where ?a p a" + strings.Repeat(" and ?a p a", api.MaxParts)
	out := []fault{
		{many, "ErrFull"},
		{"select where ?x p a", "ErrNone"},
		{"select ?y where ?x p a", "ErrNone"},
		{"select ?x where ?x p a order ?y", "ErrNone"},
		{"select ?x ?x where ?x p a", "ErrClash"},
		{"select ?x where ?x p a limit 501", "ErrRange"},
	}
	for _, s := range []string{"", " ", "select", "select ?x", "select ?x where", "select ?x where ?x p", " select ?x where ?x p a", "select  ?x where ?x p a", "select ?x where ?x p a ", "select ?x where ?x p a\r", "Select ?x where ?x p a", "select ?x where ?x p a and", "select ?x where ?x p a order", "select ?x where ?x p a limit -1", "select ?x where ?x p \"a"} {
		out = append(out, fault{s, "ErrSyntax"})
	}
	return out
}
