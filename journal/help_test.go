package journal_test

import (
	"fmt"
	"strconv"
	"strings"
	"testing"

	"strataweb/api"
	"strataweb/journal"
	"strataweb/plain"
	"strataweb/repo"
)

// named makes a Name; list makes triples of Names, three bytes each.
func named(s string) api.Term { return api.Term{Kind: api.Name, S: s} }

func list(words ...string) []api.Triple {
	var l []api.Triple
	for _, w := range words {
		l = append(l, api.Triple{S: named(w[:1]), P: named(w[1:2]), O: named(w[2:3])})
	}
	return l
}

// wide makes triples of as many bytes as may be, rising, by numbers from one up to another one.
func wide(from, to int) []api.Triple {
	var l []api.Triple
	for n := from; n < to; n++ {
		s := named("x" + strconv.Itoa(1000+n) + strings.Repeat("s", api.MaxText-5))
		o := api.Term{Kind: api.Text, S: strings.Repeat("o", api.MaxText), Lang: "en"}
		l = append(l, api.Triple{S: s, P: named(strings.Repeat("p", api.MaxText)), O: o})
	}
	return l
}

// strange are sets whose terms have each Kind, and bytes that stand in a record too: blanks, digits, colons, ends of lines.
func strange() [][]api.Triple {
	a, text := named("a"), func(s, lang string) api.Term { return api.Term{Kind: api.Text, S: s, Lang: lang} }
	var out [][]api.Triple
	for _, o := range []api.Term{
		a, named("x:1"), {Kind: api.Anon, S: "a"},
		text("", ""), text("", "en"), text("a\"\\", "de"), text("12:commit a m", ""), text(" ", ""), text("branch a 0", "en"),
	} {
		out = append(out, []api.Triple{{S: a, P: a, O: o}})
	}
	return out
}

// eight are the names of as many branches as there may be.
func eight() []string { return strings.Split("abcdefgh", "") }

// badNames are texts that no branch may have as a name.
func badNames() []string {
	return []string{"", strings.Repeat("a", api.MaxName+1), "A", "aA", "a b", " a", "a ", "a\n", "a:", "a2", "2", "\u00e9", "\x00", "\xff"}
}

// shown is all that can be told of a Repo.
func shown(r *repo.Repo) string {
	out := fmt.Sprintln(r.Refs())
	for i, c := range r.Commits() {
		g, err := r.Graph(i)
		out += fmt.Sprintln(i, c.Parents, c.Layer, strconv.Quote(c.Message), g, err)
	}
	for id := 1; ; id++ {
		b, err := r.Object(id)
		if err != nil {
			return out
		}
		out += fmt.Sprintf("%d %x\n", id, b)
	}
}

// wantTold fails unless the error is just the one that is wanted, and nil where nothing is wrong.
func wantTold(t testing.TB, what any, err error, want api.Errno) {
	t.Helper()
	if got := plain.Told(err); got != want || (err == nil) != (want == api.OK) {
		t.Errorf("%v: told %v, want %v", what, err, want)
	}
}

// wantNumber fails unless a call answered this number and told this error.
func wantNumber(t testing.TB, what any, got int, err error, want int, told api.Errno) {
	t.Helper()
	wantTold(t, what, err, told)
	if got != want {
		t.Errorf("%v = %d, want %d", what, got, want)
	}
}

// wantSizes fails unless there are so many bytes, and so many are safe.
func wantSizes(t testing.TB, j *journal.Journal, bytes, safe int) {
	t.Helper()
	if j.Bytes() != bytes || j.Safe() != safe {
		t.Errorf("%d bytes, %d are safe, want %d and %d", j.Bytes(), j.Safe(), bytes, safe)
	}
}

// wantRepo fails unless of a Journal's Repo the same can be told as of another one.
func wantRepo(t testing.TB, j *journal.Journal, want *repo.Repo) {
	t.Helper()
	if a, b := shown(j.Repo()), shown(want); a != b {
		t.Errorf("there is\n%s\nwant\n%s", a, b)
	}
}

// wantRefs fails unless these branches are there.
func wantRefs(t testing.TB, j *journal.Journal, want ...api.Ref) {
	t.Helper()
	if got := j.Repo().Refs(); fmt.Sprint(got) != fmt.Sprint(want) {
		t.Errorf("branches are %v, want %v", got, want)
	}
}

// deed is a Commit or, if isBranch, a Branch.
type deed struct {
	isBranch bool
	name     string
	at       int
	set      []api.Triple
	message  string
}

// doer is a Repo, or a Journal.
type doer interface {
	Commit(branch string, set []api.Triple, message string) (int, error)
	Branch(name string, at int) error
}

func (d deed) do(to doer) (int, error) {
	if d.isBranch {
		return 0, to.Branch(d.name, d.at)
	}
	return to.Commit(d.name, d.set, d.message)
}

// must does deeds, and fails at once if one cannot be.
func must(t testing.TB, to doer, deeds ...deed) {
	t.Helper()
	for _, d := range deeds {
		if _, err := d.do(to); err != nil {
			t.Fatalf("%v: %v", d, err)
		}
	}
}

// made makes a Repo by deeds.
func made(t testing.TB, deeds []deed) *repo.Repo {
	t.Helper()
	r := repo.New()
	must(t, r, deeds...)
	return r
}

// ends tells how many bytes there are ahead of the first of some deeds, and behind each.
func ends(t testing.TB, deeds []deed) []int {
	t.Helper()
	j := journal.New()
	out := []int{0}
	for _, d := range deeds {
		must(t, j, d)
		out = append(out, j.Bytes())
	}
	return out
}

// some are deeds of each kind, from the shortest record to long ones: branches that are new, commits with a parent and without one, one that is there already, sets of none and of many.
func some() []deed {
	return []deed{
		{name: "a"},
		{isBranch: true, name: "b", at: 0},
		{name: "a", set: list("aaa", "bbb"), message: "m"},
		{name: "b", set: list("aaa", "bbb"), message: "m"},
		{name: "c", set: strange()[6], message: "7:branch a 0"},
		{isBranch: true, name: strings.Repeat("z", api.MaxName), at: 2},
		{name: "b", message: strings.Repeat(" ", api.MaxText)},
		{name: "b", set: wide(0, 9), message: "wide"},
		{name: "d", message: ""},
		{isBranch: true, name: "e", at: 4},
	}
}
