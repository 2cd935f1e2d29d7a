package repo_test

import (
	"math"
	"regexp"
	"slices"
	"strconv"
	"strings"
	"testing"

	"strataweb/api"
	"strataweb/plain"
	"strataweb/repo"
)

const most = api.MaxSet

// named, anon and text make terms; said makes a triple of them.
func named(s string) api.Term { return api.Term{Kind: api.Name, S: s} }

func anon(s string) api.Term { return api.Term{Kind: api.Anon, S: s} }

func text(s, lang string) api.Term { return api.Term{Kind: api.Text, S: s, Lang: lang} }

func said(s, p, o api.Term) api.Triple { return api.Triple{S: s, P: p, O: o} }

// list makes triples of Names, three bytes each.
func list(words ...string) []api.Triple {
	var l []api.Triple
	for _, w := range words {
		l = append(l, said(named(w[:1]), named(w[1:2]), named(w[2:3])))
	}
	return l
}

// span makes triples, rising, by numbers from one up to another one.
func span(from, to int) []api.Triple {
	var l []api.Triple
	for n := from; n < to; n++ {
		l = append(l, said(named("a"), named("p"), named("x"+strconv.Itoa(1000+n))))
	}
	return l
}

// wide makes triples of as many bytes as may be, rising: 26 for S, 26 for P and 28 for O.
func wide(from, to int) []api.Triple {
	var l []api.Triple
	for n := from; n < to; n++ {
		s := anon(strconv.Itoa(1000+n) + strings.Repeat("s", api.MaxText-4))
		l = append(l, said(s, named(strings.Repeat("p", api.MaxText)), text(strings.Repeat("o", api.MaxText), "en")))
	}
	return l
}

// universe are triples, rising, that are unlike their neighbours in one part alone.
func universe() []api.Triple {
	a := named("a")
	return []api.Triple{
		said(a, a, a),
		said(a, a, text("a", "")),
		said(a, a, text("a", "en")),
		said(a, named("b"), a),
		said(anon("a"), a, a),
	}
}

// picked are the triples whose bits are set.
func picked(l []api.Triple, bits int) []api.Triple {
	var out []api.Triple
	for i, t := range l {
		if bits>>i&1 == 1 {
			out = append(out, t)
		}
	}
	return out
}

func less(a, b []api.Triple) []api.Triple {
	var out []api.Triple
	for _, t := range a {
		if !slices.Contains(b, t) {
			out = append(out, t)
		}
	}
	return out
}

// change is, as bytes, what makes of one set another one.
func change(from, to []api.Triple) string { return setBytes(less(to, from)) + setBytes(less(from, to)) }

func setBytes(l []api.Triple) string {
	b := []byte{byte(len(l) / 256), byte(len(l) % 256)}
	for _, t := range l {
		for _, x := range []api.Term{t.S, t.P, t.O} {
			kind := byte(x.Kind)
			if x.Lang != "" {
				kind += 4
			}
			b = append(b, kind)
			b = append(b, x.Lang...)
			b = append(b, byte(len(x.S)))
			b = append(b, x.S...)
		}
	}
	return string(b)
}

// faulty is a list that is no set, and what Sorted tells of it.
type faulty struct {
	l    []api.Triple
	want api.Errno
}

// faults are lists of all faults that Sorted tells of.
func faults() []faulty {
	a := named("a")
	long := text(strings.Repeat("a", api.MaxText+1), "")
	return []faulty{
		{list("aaa", "aaa"), api.ErrState},
		{list("aab", "aaa"), api.ErrState},
		{append(span(0, most-1), list("aaa")...), api.ErrState},
		{span(0, most+1), api.ErrFull},
		{make([]api.Triple, most+1), api.ErrFull},
		{[]api.Triple{said(a, a, long)}, api.ErrFull},
		{[]api.Triple{{}}, api.ErrRange},
		{append(list("aaa"), said(a, a, api.Term{Kind: 4, S: "a"})), api.ErrRange},
		{[]api.Triple{said(a, named("A"), a)}, api.ErrSyntax},
		{[]api.Triple{said(a, a, text("a", "e"))}, api.ErrSyntax},
		{[]api.Triple{said(text("a", ""), a, a)}, api.ErrShape},
		{append(list("aaa"), said(a, anon("a"), a)), api.ErrShape},
	}
}

// badNames are texts that no branch may have as a name.
func badNames() []string {
	l := []string{"", strings.Repeat("a", api.MaxName+1), strings.Repeat("a", 1<<16), "main2", "a b", "a ", " a", "aA", "a-b", "\u00e9", "a\u0430", "aaaaaaaaa\u00e9", "a\n", "\na"}
	for n := range 256 {
		if n < 'a' || n > 'z' {
			b := string([]byte{byte(n)})
			l = append(l, b, "a"+b, b+"a", "abcdefghi"+b)
		}
	}
	return l
}

// goodNames are names of branches, of all lengths and all letters.
func goodNames() []string {
	l := []string{"abcdefghij", "zzzzzzzzzz", "klmnopqrst", "uvwxyz"}
	for n := 1; n <= api.MaxName; n++ {
		l = append(l, strings.Repeat("m", n))
	}
	for c := 'a'; c <= 'z'; c++ {
		l = append(l, string(c))
	}
	return l
}

// eight are names of as many branches as there may be, not by their order.
func eight() []string { return []string{"h", "aa", "b", "a", "z", "main", "zz", "abcdefghij"} }

// beyond are numbers that are those of none, where there are so many from 0 on.
func beyond(length int) []int {
	return []int{-1, -2, -length - 1, math.MinInt, length, length + 1, 1000, 1 << 32, math.MaxInt}
}

// made is a commit with its graph.
type made struct {
	api.Commit
	graph []api.Triple
}

// model is what a Repo should have: all graphs whole, objects in the order in which they came, branches by name.
type model struct {
	commits []made
	objects []string
	refs    []api.Ref
}

// at is where a branch leads, and its place among the names; below 0 if there is none.
func (m *model) at(name string) (commit, place int) {
	for i, ref := range m.refs {
		if ref.Name == name {
			return ref.Commit, i
		}
	}
	return -1, -1
}

// point makes a branch lead to a commit.
func (m *model) point(name string, commit int) {
	m.drop(name)
	m.refs = append(m.refs, api.Ref{Name: name, Commit: commit})
	slices.SortFunc(m.refs, func(a, b api.Ref) int { return strings.Compare(a.Name, b.Name) })
}

// drop lets a branch go.
func (m *model) drop(name string) {
	if _, place := m.at(name); place >= 0 {
		m.refs = slices.Delete(m.refs, place, place+1)
	}
}

// room tells whether an object that is not there may come.
func (m *model) room(b string) bool {
	return len(m.objects) < api.MaxObjects && len(strings.Join(m.objects, ""))+len(b) <= api.MaxBytes
}

// commit makes a commit of a set, of which nothing is wrong, with a second parent if other is not below 0.
func (m *model) commit(branch string, other int, set []api.Triple, message string) (int, api.Errno) {
	head, _ := m.at(branch)
	switch {
	case !nameForm.MatchString(branch):
		return 0, api.ErrSyntax
	case len(message) > api.MaxText:
		return 0, api.ErrFull
	case !messageForm.MatchString(message):
		return 0, api.ErrSyntax
	case head < 0 && len(m.refs) == api.MaxNames:
		return 0, api.ErrFull
	}
	var parents []int
	var start []api.Triple
	if head >= 0 {
		parents, start = append(parents, head), m.commits[head].graph
	}
	if other >= 0 {
		parents = append(parents, other)
	}
	return m.led(branch, parents, change(start, set), made{graph: set, Commit: api.Commit{Message: message}})
}

// led makes a branch lead to a commit with these parents.
func (m *model) led(branch string, parents []int, b string, c made) (int, api.Errno) {
	at, told := m.taken(parents, b, c)
	if told == api.OK {
		m.point(branch, at)
	}
	return at, told
}

// taken is the number of a commit with these parents.
func (m *model) taken(parents []int, b string, c made) (int, api.Errno) {
	for i, x := range m.commits {
		if slices.Equal(x.Parents, parents) && slices.Equal(x.graph, c.graph) && x.Message == c.Message {
			return i, api.OK
		}
	}
	id := slices.Index(m.objects, b) + 1
	if len(m.commits) == api.MaxCommits || id == 0 && !m.room(b) {
		return 0, api.ErrFull
	}
	if id == 0 {
		m.objects = append(m.objects, b)
		id = len(m.objects)
	}
	c.Parents, c.Layer = parents, id
	m.commits = append(m.commits, c)
	return len(m.commits) - 1, api.OK
}

var (
	nameForm    = regexp.MustCompile(`\A[a-z]{1,10}\z`)
	messageForm = regexp.MustCompile(`\A[ -~]*\z`)
)

// both is a Repo and what it should have.
type both struct {
	r *repo.Repo
	m *model
}

func started() both { return both{repo.New(), &model{}} }

// commit does so with both, and tells the number.
func (x both) commit(t *testing.T, branch string, set []api.Triple, message string) int {
	t.Helper()
	want, told := x.m.commit(branch, -1, set, message)
	got, err := x.r.Commit(branch, set, message)
	wantNumber(t, "Commit on "+strconv.Quote(branch), got, err, want, told)
	return got
}

// join does so with both, and tells the number.
func (x both) join(t *testing.T, branch string, other int, set []api.Triple, message string) int {
	t.Helper()
	head, place := x.m.at(branch)
	want, told := 0, api.OK
	switch {
	case !nameForm.MatchString(branch):
		told = api.ErrSyntax
	case place < 0:
		told = api.ErrNone
	case other < 0 || other >= len(x.m.commits):
		told = api.ErrRange
	case other == head:
		told = api.ErrClash
	default:
		want, told = x.m.commit(branch, other, set, message)
	}
	got, err := x.r.Join(branch, other, set, message)
	wantNumber(t, "Join on "+strconv.Quote(branch), got, err, want, told)
	return got
}

// add does so with both, and tells the number: the bytes are those of the Layer that makes of the first parent's graph the set.
func (x both) add(t *testing.T, parents []int, set []api.Triple, message string) int {
	t.Helper()
	var start []api.Triple
	if len(parents) > 0 {
		start = x.m.commits[parents[0]].graph
	}
	b := change(start, set)
	want, told := x.m.taken(parents, b, made{graph: set, Commit: api.Commit{Message: message}})
	got, err := x.r.Add(parents, b, message)
	wantNumber(t, "Add", got, err, want, told)
	return got
}

// branch does so with both.
func (x both) branch(t *testing.T, name string, at int) {
	t.Helper()
	_, place := x.m.at(name)
	told := api.OK
	switch {
	case !nameForm.MatchString(name):
		told = api.ErrSyntax
	case at < 0 || at >= len(x.m.commits):
		told = api.ErrRange
	case place >= 0:
		told = api.ErrClash
	case len(x.m.refs) == api.MaxNames:
		told = api.ErrFull
	default:
		x.m.point(name, at)
	}
	wantTold(t, "Branch "+strconv.Quote(name), x.r.Branch(name, at), told)
}

// move does so with both.
func (x both) move(t *testing.T, name string, from, to int) {
	t.Helper()
	head, place := x.m.at(name)
	told := api.OK
	switch {
	case !nameForm.MatchString(name):
		told = api.ErrSyntax
	case place < 0:
		told = api.ErrNone
	case head != from:
		told = api.ErrState
	case to < 0 || to >= len(x.m.commits):
		told = api.ErrRange
	default:
		x.m.point(name, to)
	}
	wantTold(t, "Move "+strconv.Quote(name), x.r.Move(name, from, to), told)
}

// drop does so with both.
func (x both) drop(t *testing.T, name string) {
	t.Helper()
	_, place := x.m.at(name)
	told := api.OK
	switch {
	case !nameForm.MatchString(name):
		told = api.ErrSyntax
	case place < 0:
		told = api.ErrNone
	default:
		x.m.drop(name)
	}
	wantTold(t, "Drop "+strconv.Quote(name), x.r.Drop(name), told)
}

// held fails unless the Repo has just what it should have.
func (x both) held(t *testing.T) {
	t.Helper()
	if got := x.r.Refs(); !slices.Equal(got, x.m.refs) {
		t.Errorf("Refs() = %v, want %v", got, x.m.refs)
	}
	for _, ref := range x.m.refs {
		got, err := x.r.Head(ref.Name)
		wantNumber(t, "Head of "+ref.Name, got, err, ref.Commit, api.OK)
	}
	got := x.r.Commits()
	if len(got) != len(x.m.commits) {
		t.Fatalf("Commits() = %v, want %d of them", got, len(x.m.commits))
	}
	for i, want := range x.m.commits {
		if c := got[i]; !slices.Equal(c.Parents, want.Parents) || c.Layer != want.Layer || c.Message != want.Message {
			t.Errorf("commit %d = %v, want %v", i, c, want.Commit)
		}
		g, err := x.r.Graph(i)
		wantSet(t, i, g, err, want.graph)
	}
	for _, at := range beyond(len(x.m.commits)) {
		g, err := x.r.Graph(at)
		wantTold(t, at, err, api.ErrRange)
		if len(g) != 0 {
			t.Errorf("Graph(%d) = %v, want none", at, g)
		}
	}
	x.heldObjects(t)
}

// heldObjects fails unless the Repo has just the objects that it should have.
func (x both) heldObjects(t *testing.T) {
	t.Helper()
	for i, want := range x.m.objects {
		got, err := x.r.Object(i + 1)
		wantTold(t, i+1, err, api.OK)
		if got != want {
			t.Errorf("Object(%d) = %x, want %x", i+1, got, want)
		}
	}
	for _, id := range append(beyond(len(x.m.objects)+1), 0) {
		got, err := x.r.Object(id)
		wantTold(t, id, err, api.ErrNone)
		if got != "" {
			t.Errorf("Object(%d) = %x, want none", id, got)
		}
	}
}

// wantTold fails unless the error is just the one that is wanted, and nil where nothing is wrong.
func wantTold(t *testing.T, what any, err error, want api.Errno) {
	t.Helper()
	if got := plain.Told(err); got != want || (err == nil) != (want == api.OK) {
		t.Errorf("%v: told %v, want %v", what, err, want)
	}
}

// wantNumber fails unless a call answered this number and told this error.
func wantNumber(t *testing.T, what any, got int, err error, want int, told api.Errno) {
	t.Helper()
	wantTold(t, what, err, told)
	if got != want {
		t.Errorf("%v = %d, want %d", what, got, want)
	}
}

// wantSet fails unless a call answered this set, with nothing wrong.
func wantSet(t *testing.T, what any, got []api.Triple, err error, want []api.Triple) {
	t.Helper()
	wantTold(t, what, err, api.OK)
	if !slices.Equal(got, want) {
		t.Errorf("%v = %v, want %v", what, got, want)
	}
}
