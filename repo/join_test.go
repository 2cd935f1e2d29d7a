package repo_test

import (
	"math"
	"slices"
	"strconv"
	"strings"
	"testing"

	"strataweb/api"
	"strataweb/repo"
)

// apart makes both with a root, two that came of it, on a and b, and one that came of nothing, on c.
func apart(t *testing.T) both {
	t.Helper()
	x := started()
	x.commit(t, "a", list("aaa"), "root")
	x.branch(t, "b", 0)
	x.commit(t, "a", list("aaa", "bbb"), "left")
	x.commit(t, "b", list("aaa", "ccc"), "right")
	x.commit(t, "c", list("zzz"), "other")
	return x
}

// What a Join is made of, written out: its first parent is where the branch led, and the Layer goes from that one's graph.
func TestJoin(t *testing.T) {
	x := apart(t)
	n, err := x.r.Join("a", 2, list("aaa", "bbb", "ccc"), "joined")
	wantNumber(t, "Join", n, err, 4, api.OK)
	got := x.r.Commits()[4]
	if !slices.Equal(got.Parents, []int{1, 2}) || got.Message != "joined" {
		t.Errorf("commit 4 = %v, want the parents 1 and 2", got)
	}
	b, err := x.r.Object(got.Layer)
	wantTold(t, got.Layer, err, api.OK)
	if want := "\x00\x01\x01\x01c\x01\x01c\x01\x01c\x00\x00"; b != want {
		t.Errorf("its Layer is %q, want %q", b, want)
	}
	g, err := x.r.Graph(4)
	wantSet(t, 4, g, err, list("aaa", "bbb", "ccc"))
	if got, want := x.r.Refs(), []api.Ref{{Name: "a", Commit: 4}, {Name: "b", Commit: 2}, {Name: "c", Commit: 3}}; !slices.Equal(got, want) {
		t.Errorf("Refs() = %v, want %v", got, want)
	}
}

// The set is what is handed in, whatever the parents have; any other commit may be the second parent, also an ancestor, or one that comes of the branch's.
func TestJoinWithAny(t *testing.T) {
	for _, name := range []string{"a", "b", "c"} {
		for other := range 4 {
			for _, set := range [][]api.Triple{nil, list("aaa"), list("aaa", "bbb"), list("yyy"), span(0, most)} {
				x := apart(t)
				x.join(t, name, other, set, "j")
				x.held(t)
				x.join(t, name, other, set, "j")
				x.commit(t, name, set, "j")
				x.join(t, name, 0, nil, "")
				x.held(t)
			}
		}
	}
	x := apart(t)
	x.move(t, "a", 1, 0)
	x.join(t, "a", 1, list("aaa"), "down")
	x.held(t)
}

// Just the same parents, graph and Message: no commit more, but the branch leads to the one that is there.
func TestJoinAgain(t *testing.T) {
	x := apart(t)
	both := list("aaa", "bbb", "ccc")
	if got := x.join(t, "a", 2, both, "j"); got != 4 {
		t.Errorf("the first Join is %d, want 4", got)
	}
	x.branch(t, "again", 1)
	if got := x.join(t, "again", 2, both, "j"); got != 4 {
		t.Errorf("the same Join is %d, want 4", got)
	}
	x.held(t)
	for i, c := range []struct {
		from, other int
		set         []api.Triple
		message     string
	}{
		{1, 2, both, "J"},
		{1, 2, both, ""},
		{1, 2, nil, "j"},
		{1, 2, list("aaa", "bbb"), "j"},
		{1, 3, both, "j"},
		{1, 0, both, "j"},
		{0, 2, both, "j"},
		{3, 2, both, "j"},
		{2, 1, both, "j"},
	} {
		x.branch(t, "n", c.from)
		if got := x.join(t, "n", c.other, c.set, c.message); got != 5+i {
			t.Errorf("%v is %d, want %d", c, got, 5+i)
		}
		x.drop(t, "n")
		x.held(t)
	}
}

// A Join is none that has no second parent, whatever else is the same.
func TestJoinIsNoCommit(t *testing.T) {
	x := apart(t)
	one := x.commit(t, "a", list("zzz"), "m")
	x.move(t, "a", one, 1)
	if got := x.join(t, "a", 3, list("zzz"), "m"); got == one {
		t.Errorf("Join came to %d, which has one parent", got)
	}
	x.held(t)
}

// Behind a Join graphs go on by first parents alone.
func TestGraphBehindJoins(t *testing.T) {
	x := apart(t)
	for i := range 12 {
		x.join(t, "a", i, list("aaa", "bbb", "ccc")[i%3:], strconv.Itoa(i))
		x.commit(t, "a", universe()[i%5:], strconv.Itoa(i))
		x.join(t, "b", len(x.m.commits)-1, span(i, 2*i), strconv.Itoa(i))
	}
	x.held(t)
}

// Of several faults the first is told: the name's, no such branch, no such commit, the same one, the set's, the Message's, and then what is full.
func TestJoinTellsFirst(t *testing.T) {
	sets := append(faults(), faulty{nil, api.OK})
	messages := []string{"m", "\n", strings.Repeat("m", api.MaxText+1)}
	for _, x := range []both{apart(t), fullApart(t)} {
		for _, f := range sets {
			for _, message := range messages {
				for _, other := range append(beyond(len(x.m.commits)), 0, 1, 2) {
					n, err := x.r.Join("A", other, f.l, message)
					wantNumber(t, f, n, err, 0, api.ErrSyntax)
					n, err = x.r.Join("none", other, f.l, message)
					wantNumber(t, f, n, err, 0, api.ErrNone)
				}
				for _, other := range beyond(len(x.m.commits)) {
					n, err := x.r.Join("a", other, f.l, message)
					wantNumber(t, f, n, err, 0, api.ErrRange)
				}
				n, err := x.r.Join("a", 1, f.l, message)
				wantNumber(t, f, n, err, 0, api.ErrClash)
				if f.want != api.OK {
					n, err = x.r.Join("a", 2, f.l, message)
					wantNumber(t, f, n, err, 0, f.want)
				}
			}
		}
		n, err := x.r.Join("a", 2, nil, "\n")
		wantNumber(t, "a Message", n, err, 0, api.ErrSyntax)
		n, err = x.r.Join("a", 2, nil, strings.Repeat("\n", api.MaxText+1))
		wantNumber(t, "a long Message", n, err, 0, api.ErrFull)
		x.held(t)
	}
}

// fullApart is apart, with as many commits as may be.
func fullApart(t *testing.T) both {
	t.Helper()
	x := apart(t)
	for i := len(x.m.commits); i < api.MaxCommits; i++ {
		x.commit(t, "c", span(i, i+1), "m")
	}
	return x
}

func TestJoinNames(t *testing.T) {
	x := apart(t)
	for _, name := range badNames() {
		n, err := x.r.Join(name, 0, nil, "m")
		wantNumber(t, strconv.Quote(name), n, err, 0, api.ErrSyntax)
	}
	for _, name := range goodNames() {
		if _, place := x.m.at(name); place < 0 {
			n, err := x.r.Join(name, 0, nil, "m")
			wantNumber(t, name, n, err, 0, api.ErrNone)
		}
	}
	x.held(t)
	n, err := repo.New().Join("a", 0, nil, "m")
	wantNumber(t, "of nothing", n, err, 0, api.ErrNone)
	n, err = repo.New().Join("a", math.MinInt, nil, "m")
	wantNumber(t, "of nothing", n, err, 0, api.ErrNone)
}

// All branches that may be are no hindrance: it is one of them.
func TestJoinMostNames(t *testing.T) {
	x := started()
	for i, name := range eight() {
		x.commit(t, name, span(i, i+1), "m")
	}
	for i, name := range eight() {
		if got := x.join(t, name, (i+1)%8, nil, "j"); got != 8+i {
			t.Errorf("Join on %s is %d, want %d", name, got, 8+i)
		}
	}
	x.held(t)
}

// Where there are all commits that may be, one that is there already is not one more.
func TestJoinMostCommits(t *testing.T) {
	x := apart(t)
	x.join(t, "a", 2, list("aaa"), "j")
	for i := len(x.m.commits); i < api.MaxCommits; i++ {
		x.commit(t, "c", span(i, i+1), "m")
	}
	x.branch(t, "d", 1)
	for _, set := range [][]api.Triple{nil, list("abc"), span(0, most)} {
		n, err := x.r.Join("d", 2, set, "j")
		wantNumber(t, set, n, err, 0, api.ErrFull)
	}
	x.held(t)
	if got := x.join(t, "d", 2, list("aaa"), "j"); got != 4 {
		t.Errorf("the same Join is %d, want 4", got)
	}
	x.held(t)
}

// What has no room for its Layer is no commit, and the branch leads where it did.
func TestJoinMostBytes(t *testing.T) {
	x := started()
	x.commit(t, "a", wide(0, most), "m")
	x.commit(t, "b", wide(most, 2*most), "m")
	x.commit(t, "c", wide(2*most, 3*most), "m")
	n, err := x.r.Join("a", 1, wide(most, 2*most), "m")
	wantNumber(t, "Join", n, err, 0, api.ErrFull)
	x.held(t)
	x.join(t, "a", 1, wide(0, most), "m")
	x.held(t)
}
