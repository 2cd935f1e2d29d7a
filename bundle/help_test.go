package bundle_test

import (
	"fmt"
	"math/rand"
	"slices"
	"strconv"
	"strings"
	"testing"

	"strataweb/api"
	"strataweb/bundle"
	"strataweb/code"
	"strataweb/layer"
	"strataweb/plain"
	"strataweb/repo"
)

// named makes a Name; said makes a triple; list makes triples of Names, three bytes each.
func named(s string) api.Term { return api.Term{Kind: api.Name, S: s} }

func said(s, p, o api.Term) api.Triple { return api.Triple{S: s, P: p, O: o} }

func list(words ...string) []api.Triple {
	var l []api.Triple
	for _, w := range words {
		l = append(l, said(named(w[:1]), named(w[1:2]), named(w[2:3])))
	}
	return l
}

// wide makes triples of as many bytes as may be, rising, by numbers from one up to another one.
func wide(from, to int) []api.Triple {
	var l []api.Triple
	for n := from; n < to; n++ {
		s := named("x" + strconv.Itoa(1000+n) + strings.Repeat("s", api.MaxText-5))
		o := api.Term{Kind: api.Text, S: strings.Repeat("\"", api.MaxText), Lang: "en"}
		l = append(l, said(s, named(strings.Repeat("p", api.MaxText)), o))
	}
	return l
}

// some are triples, rising, of which sets are made.
func some() []api.Triple {
	a := named("a")
	return []api.Triple{
		said(a, a, a),
		said(a, named("b"), a),
		said(a, named("b"), api.Term{Kind: api.Text, S: "1 2 \\"}),
		said(a, named("b"), api.Term{Kind: api.Text, S: "0123456789", Lang: "en"}),
		said(api.Term{Kind: api.Anon, S: "1"}, a, a),
	}
}

// picked are the triples whose bits are set.
func picked(l []api.Triple, bits int) []api.Triple {
	var out []api.Triple
	for i, t := range l {
		if bits>>i&1 == 1 {
			out = append(out, t)
		}
	}
	return out
}

// commit and join do so, and fail at once if that cannot be.
func commit(t testing.TB, r *repo.Repo, branch string, set []api.Triple, message string) int {
	t.Helper()
	n, err := r.Commit(branch, set, message)
	if err != nil {
		t.Fatalf("Commit on %s: %v", branch, err)
	}
	return n
}

func join(t testing.TB, r *repo.Repo, branch string, other int, set []api.Triple, message string) int {
	t.Helper()
	n, err := r.Join(branch, other, set, message)
	if err != nil {
		t.Fatalf("Join on %s with %d: %v", branch, other, err)
	}
	return n
}

// branch makes one that leads to a commit, and lets go of one that had the name.
func branch(t testing.TB, r *repo.Repo, name string, at int) {
	t.Helper()
	r.Drop(name)
	if err := r.Branch(name, at); err != nil {
		t.Fatalf("Branch %s at %d: %v", name, at, err)
	}
}

// woven makes a Repo of so many steps, few of which are alike: commits on and joins of three branches, from anywhere.
func woven(seed int64, steps int) *repo.Repo {
	by := rand.New(rand.NewSource(seed))
	r := repo.New()
	for range steps {
		name := "abc"[by.Intn(3):][:1]
		set := picked(some(), by.Intn(1<<by.Intn(6)))
		message := []string{"", "m", "1 0 "}[by.Intn(3)]
		size := len(r.Commits())
		switch by.Intn(4) {
		case 0:
			r.Drop(name)
			r.Branch(name, by.Intn(size+1))
		case 1:
			r.Join(name, by.Intn(size+1), set, message)
		default:
			r.Commit(name, set, message)
		}
	}
	return r
}

// world numbers commits, of whatever Repo, by what they are made of.
type world map[string]int

// of tells the numbers of all commits of a Repo: in the chapter's words, by graph, Message and parents.
func (w world) of(t testing.TB, r *repo.Repo) []int {
	t.Helper()
	var out []int
	for i, c := range r.Commits() {
		g, err := r.Graph(i)
		if err != nil {
			t.Fatalf("Graph(%d): %v", i, err)
		}
		key := fmt.Sprintf("%#v %q", g, c.Message)
		if len(g) == 0 {
			key = fmt.Sprintf("%q", c.Message)
		}
		for _, p := range c.Parents {
			key += fmt.Sprint(" ", out[p])
		}
		if _, ok := w[key]; !ok {
			w[key] = len(w)
		}
		out = append(out, w[key])
	}
	return out
}

// shown is all that can be told of a Repo.
func shown(r *repo.Repo) string {
	out := fmt.Sprintln(r.Refs())
	for i := range r.Commits() {
		out += commitShown(r, i)
	}
	for id := 1; ; id++ {
		b, err := r.Object(id)
		if err != nil {
			return out
		}
		out += fmt.Sprintf("%d %x\n", id, b)
	}
}

// commitShown is all that can be told of a commit.
func commitShown(r *repo.Repo, i int) string {
	c := r.Commits()[i]
	g, err := r.Graph(i)
	return fmt.Sprintln(i, c.Parents, c.Layer, strconv.Quote(c.Message), g, err)
}

// exported is what Export tells of a Repo, of which nothing is wrong.
func exported(t testing.TB, r *repo.Repo, have ...int) string {
	t.Helper()
	text, err := bundle.Export(r, have)
	wantTold(t, have, err, api.OK)
	return text
}

// wantTold fails unless the error is just the one that is wanted, and nil where nothing is wrong.
func wantTold(t testing.TB, what any, err error, want api.Errno) {
	t.Helper()
	if got := plain.Told(err); got != want || (err == nil) != (want == api.OK) {
		t.Errorf("%v: told %v, want %v", what, err, want)
	}
}

// wantImport fails unless Import tells these numbers.
func wantImport(t testing.TB, r *repo.Repo, text string, want ...int) {
	t.Helper()
	got, err := bundle.Import(r, text)
	wantTold(t, "Import", err, api.OK)
	if !slices.Equal(got, want) {
		t.Errorf("Import told %v, want %v", got, want)
	}
}

// wantNoImport fails unless Import tells just this error, and leaves all as it was.
func wantNoImport(t testing.TB, r *repo.Repo, text string, want api.Errno) {
	t.Helper()
	before := shown(r)
	got, err := bundle.Import(r, text)
	wantTold(t, strconv.Quote(short(text)), err, want)
	if len(got) != 0 {
		t.Errorf("Import told %v, and %v", got, err)
	}
	if shown(r) != before {
		t.Errorf("Import told %v, and changed what was there", err)
	}
}

// wantNeeds fails unless Needs tells these names.
func wantNeeds(t testing.TB, text string, want ...string) {
	t.Helper()
	got, err := bundle.Needs(text)
	wantTold(t, "Needs", err, api.OK)
	if !slices.Equal(got, want) {
		t.Errorf("Needs told %q, want %q", got, want)
	}
}

// wantNone fails unless a text is told to be that of no Export, by a Repo too that has some commits.
func wantNone(t testing.TB, text string) {
	t.Helper()
	got, err := bundle.Needs(text)
	wantTold(t, strconv.Quote(short(text)), err, api.ErrSyntax)
	if len(got) != 0 {
		t.Errorf("Needs told %q, and %v", got, err)
	}
	wantNoImport(t, repo.New(), text, api.ErrSyntax)
	wantNoImport(t, woven(3, 9), text, api.ErrSyntax)
}

// short is the beginning of a text that is long.
func short(text string) string { return text[:min(len(text), 300)] }

// wantWhole fails unless each commit's Layer goes from its first parent's graph to its own.
func wantWhole(t testing.TB, r *repo.Repo) {
	t.Helper()
	for i, c := range r.Commits() {
		var start []api.Triple
		if len(c.Parents) > 0 {
			start, _ = r.Graph(c.Parents[0])
		}
		g, err := r.Graph(i)
		wantTold(t, i, err, api.OK)
		l, err := layer.Between(start, g)
		wantTold(t, i, err, api.OK)
		want, err := code.Layer(l)
		wantTold(t, i, err, api.OK)
		if got, err := r.Object(c.Layer); err != nil || got != want {
			t.Errorf("commit %d has the Layer %x, want %x", i, got, want)
		}
	}
}
