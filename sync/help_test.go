package sync_test

import (
	"fmt"
	"strconv"
	"strings"
	"testing"

	"strataweb/api"
	"strataweb/bundle"
	"strataweb/plain"
	"strataweb/repo"
	"strataweb/sync"
)

// named makes a Name; said makes a triple; list makes triples of Names, three bytes each.
func named(s string) api.Term { return api.Term{Kind: api.Name, S: s} }

func said(s, p, o api.Term) api.Triple { return api.Triple{S: s, P: p, O: o} }

func list(words ...string) []api.Triple {
	var l []api.Triple
	for _, w := range words {
		l = append(l, said(named(w[:1]), named(w[1:2]), named(w[2:3])))
	}
	return l
}

// span makes triples of one pair, rising, by numbers from one up to another one.
func span(pair string, from, to int) []api.Triple {
	var l []api.Triple
	for n := from; n < to; n++ {
		l = append(l, said(named(pair[:1]), named(pair[1:2]), named("x"+strconv.Itoa(1000+n))))
	}
	return l
}

// wide makes triples of as many bytes as may be, rising, by numbers from one up to another one.
func wide(from, to int) []api.Triple {
	var l []api.Triple
	for n := from; n < to; n++ {
		s := named("x" + strconv.Itoa(1000+n) + strings.Repeat("s", api.MaxText-5))
		o := api.Term{Kind: api.Text, S: strings.Repeat("o", api.MaxText), Lang: "en"}
		l = append(l, said(s, named(strings.Repeat("p", api.MaxText)), o))
	}
	return l
}

// universe are triples, rising, of three pairs: the bits of each pair are in groups.
func universe() (all []api.Triple, groups []int) {
	a := named("a")
	return []api.Triple{
		said(a, a, a),
		said(a, a, api.Term{Kind: api.Text, S: "a", Lang: "en"}),
		said(a, named("b"), a),
		said(a, named("b"), named("b")),
		said(api.Term{Kind: api.Anon, S: "a"}, a, a),
	}, []int{1 | 2, 4 | 8, 16}
}

// picked are the triples whose bits are set.
func picked(bits int) []api.Triple {
	all, _ := universe()
	var out []api.Triple
	for i, t := range all {
		if bits>>i&1 == 1 {
			out = append(out, t)
		}
	}
	return out
}

// commit and join do so, and fail at once if that cannot be.
func commit(t testing.TB, r *repo.Repo, branch string, set []api.Triple, message string) int {
	t.Helper()
	n, err := r.Commit(branch, set, message)
	if err != nil {
		t.Fatalf("Commit on %s: %v", branch, err)
	}
	return n
}

func join(t testing.TB, r *repo.Repo, branch string, other int, set []api.Triple, message string) int {
	t.Helper()
	n, err := r.Join(branch, other, set, message)
	if err != nil {
		t.Fatalf("Join on %s with %d: %v", branch, other, err)
	}
	return n
}

// branch makes one that leads to a commit, and lets go of one that had the name.
func branch(t testing.TB, r *repo.Repo, name string, at int) {
	t.Helper()
	r.Drop(name)
	if err := r.Branch(name, at); err != nil {
		t.Fatalf("Branch %s at %d: %v", name, at, err)
	}
}

// line makes a Repo of so many commits on one branch, each of which comes of the one ahead of it.
func line(t testing.TB, name, message string, size int) *repo.Repo {
	t.Helper()
	r := repo.New()
	for i := range size {
		commit(t, r, name, list("aaa", "bbb")[i%2:], message)
	}
	return r
}

// copied makes a Repo that has the same commits by the same numbers, and the same branches.
func copied(t testing.TB, r *repo.Repo) *repo.Repo {
	t.Helper()
	out := repo.New()
	text, err := bundle.Export(r, nil)
	if err == nil {
		_, err = bundle.Import(out, text)
	}
	if err != nil {
		t.Fatal(err)
	}
	for _, ref := range r.Refs() {
		branch(t, out, ref.Name, ref.Commit)
	}
	return out
}

// full makes a Repo in which all branches are that there may be: a to h, each on a commit of its own.
func full(t testing.TB) *repo.Repo {
	t.Helper()
	r := repo.New()
	for i, name := range strings.Split("abcdefgh", "") {
		commit(t, r, name, span("ap", i, i+1), "m")
	}
	return r
}

// badNames are texts that no branch may have as a name.
func badNames() []string {
	return []string{"", strings.Repeat("a", api.MaxName+1), strings.Repeat("a", 1<<16), "A", "aA", "a b", " a", "a\n", "a2", "a-b", "`", "{", "\u00e9", "\x00", "\xff"}
}

// shown is all that can be told of a Repo.
func shown(r *repo.Repo) string {
	out := fmt.Sprintln(r.Refs())
	for i, c := range r.Commits() {
		g, err := r.Graph(i)
		out += fmt.Sprintln(i, c.Parents, c.Layer, strconv.Quote(c.Message), g, err)
	}
	for id := 1; ; id++ {
		b, err := r.Object(id)
		if err != nil {
			return out
		}
		out += fmt.Sprintf("%d %x\n", id, b)
	}
}

// wantShown fails unless that is all that can be told of a Repo, but for its graphs and objects.
func wantShown(t testing.TB, r *repo.Repo, want ...string) {
	t.Helper()
	got := []string{fmt.Sprint(r.Refs())}
	for i, c := range r.Commits() {
		got = append(got, fmt.Sprint(i, c.Parents, " ", c.Message))
	}
	if a, b := strings.Join(got, "\n"), strings.Join(want, "\n"); a != b {
		t.Errorf("there is\n%s\nwant\n%s", a, b)
	}
}

// wantGraph fails unless that is the graph of a commit.
func wantGraph(t testing.TB, r *repo.Repo, at int, want []api.Triple) {
	t.Helper()
	got, err := r.Graph(at)
	wantTold(t, at, err, api.OK)
	if fmt.Sprint(got) != fmt.Sprint(want) {
		t.Errorf("Graph(%d) = %v, want %v", at, got, want)
	}
}

// wantTold fails unless the error is just the one that is wanted, and nil where nothing is wrong.
func wantTold(t testing.TB, what any, err error, want api.Errno) {
	t.Helper()
	if got := plain.Told(err); got != want || (err == nil) != (want == api.OK) {
		t.Errorf("%v: told %v, want %v", what, err, want)
	}
}

// wantNumber fails unless a call answered this number and told this error.
func wantNumber(t testing.TB, what any, got int, err error, want int, told api.Errno) {
	t.Helper()
	wantTold(t, what, err, told)
	if got != want {
		t.Errorf("%v = %d, want %d", what, got, want)
	}
}

// wantPush fails unless Push tells this commit, to which the branch leads then, and leaves the one it comes from as it was.
func wantPush(t testing.TB, from, to *repo.Repo, name string, want int) {
	t.Helper()
	before := shown(from)
	got, err := sync.Push(from, to, name)
	wantNumber(t, "Push "+name, got, err, want, api.OK)
	at, err := to.Head(name)
	wantNumber(t, "Head of "+name, at, err, want, api.OK)
	if from != to && shown(from) != before {
		t.Errorf("Push %s has changed what it came from", name)
	}
}

// wantNoPush fails unless Push tells just this error, and leaves all as it was.
func wantNoPush(t testing.TB, from, to *repo.Repo, name string, want api.Errno) {
	t.Helper()
	ahead, before := shown(from), shown(to)
	got, err := sync.Push(from, to, name)
	wantNumber(t, "Push "+strconv.Quote(name), got, err, 0, want)
	if shown(from) != ahead || shown(to) != before {
		t.Errorf("Push told %v, and changed something", err)
	}
}

// wantPull fails unless Pull tells this commit, to which the branch leads then, and leaves the one it comes from as it was.
func wantPull(t testing.TB, to, from *repo.Repo, name, message string, want int) {
	t.Helper()
	before := shown(from)
	got, err := sync.Pull(to, from, name, message)
	wantNumber(t, "Pull "+name, got, err, want, api.OK)
	at, err := to.Head(name)
	wantNumber(t, "Head of "+name, at, err, want, api.OK)
	if from != to && shown(from) != before {
		t.Errorf("Pull %s has changed what it came from", name)
	}
}

// wantNoPull fails unless Pull tells just this error, and leaves all as it was.
func wantNoPull(t testing.TB, to, from *repo.Repo, name, message string, want api.Errno) {
	t.Helper()
	ahead, before := shown(from), shown(to)
	got, err := sync.Pull(to, from, name, message)
	wantNumber(t, "Pull "+strconv.Quote(name), got, err, 0, want)
	if shown(from) != ahead || shown(to) != before {
		t.Errorf("Pull told %v, and changed something", err)
	}
}

// wantRefused fails unless a call tells just this error, no branch leads elsewhere, and just what a Fetch brings has come.
func wantRefused(t testing.TB, to, from *repo.Repo, want api.Errno, call func() (int, error)) {
	t.Helper()
	like := copied(t, to)
	_, err := sync.Fetch(like, from)
	wantTold(t, "Fetch", err, api.OK)
	ahead := shown(from)
	for range 2 {
		got, err := call()
		wantNumber(t, "what is refused", got, err, 0, want)
		if shown(to) != shown(like) {
			t.Errorf("there is\n%s\nwant\n%s", shown(to), shown(like))
		}
	}
	if shown(from) != ahead {
		t.Error("what it came from has changed")
	}
}
