package repo_test

import (
	"slices"
	"strconv"
	"strings"
	"testing"
	"unsafe"

	"strataweb/api"
	"strataweb/repo"
)

func TestNew(t *testing.T) {
	x := started()
	x.held(t)
	for _, name := range goodNames() {
		n, err := x.r.Head(name)
		wantNumber(t, name, n, err, 0, api.ErrNone)
	}
}

// What a commit is made of, written out: the parent is where the branch led, the Layer goes from its graph to the set.
func TestCommit(t *testing.T) {
	r := repo.New()
	for i, c := range []struct {
		branch string
		set    []api.Triple
		want   api.Commit
	}{
		{"main", list("aaa", "bbb"), api.Commit{Layer: 1, Message: "0"}},
		{"main", list("aaa", "ccc"), api.Commit{Parents: []int{0}, Layer: 2, Message: "1"}},
		{"main", nil, api.Commit{Parents: []int{1}, Layer: 3, Message: "2"}},
		{"side", nil, api.Commit{Layer: 4, Message: "3"}},
		{"main", list("aaa", "bbb"), api.Commit{Parents: []int{2}, Layer: 1, Message: "4"}},
		{"side", list("aaa"), api.Commit{Parents: []int{3}, Layer: 5, Message: "5"}},
		{"main", list("aaa", "bbb"), api.Commit{Parents: []int{4}, Layer: 4, Message: "6"}},
	} {
		n, err := r.Commit(c.branch, c.set, strconv.Itoa(i))
		wantNumber(t, i, n, err, i, api.OK)
		got := r.Commits()[i]
		if !slices.Equal(got.Parents, c.want.Parents) || got.Layer != c.want.Layer || got.Message != c.want.Message {
			t.Errorf("commit %d = %v, want %v", i, got, c.want)
		}
		g, err := r.Graph(i)
		wantSet(t, i, g, err, c.set)
		n, err = r.Head(c.branch)
		wantNumber(t, c.branch, n, err, i, api.OK)
	}
	for id, want := range []string{
		"\x00\x02" + "\x01\x01a\x01\x01a\x01\x01a" + "\x01\x01b\x01\x01b\x01\x01b" + "\x00\x00",
		"\x00\x01" + "\x01\x01c\x01\x01c\x01\x01c" + "\x00\x01" + "\x01\x01b\x01\x01b\x01\x01b",
		"\x00\x00" + "\x00\x02" + "\x01\x01a\x01\x01a\x01\x01a" + "\x01\x01c\x01\x01c\x01\x01c",
		"\x00\x00\x00\x00",
		"\x00\x01" + "\x01\x01a\x01\x01a\x01\x01a" + "\x00\x00",
	} {
		got, err := r.Object(id + 1)
		wantTold(t, id+1, err, api.OK)
		if got != want {
			t.Errorf("Object(%d) = %q, want %q", id+1, got, want)
		}
	}
	if got, want := r.Refs(), []api.Ref{{Name: "main", Commit: 6}, {Name: "side", Commit: 5}}; !slices.Equal(got, want) {
		t.Errorf("Refs() = %v, want %v", got, want)
	}
}

// From each graph of five triples to each, over a branch of its own.
func TestCommitAllSmall(t *testing.T) {
	all := universe()
	for from := range 1 << len(all) {
		x := started()
		for to := range 1 << len(all) {
			// The first one is the same for all; 32 come of it, so that MaxCommits are not passed.
			x.commit(t, "a", picked(all, from), "from")
			x.commit(t, "a", picked(all, to), "to")
			x.drop(t, "a")
		}
		if len(x.m.commits) != 1+1<<len(all) {
			t.Errorf("from %d: %d commits, want %d", from, len(x.m.commits), 1+1<<len(all))
		}
		x.held(t)
	}
}

// A branch that is new has no parent, also where there are commits.
func TestCommitOnNewBranches(t *testing.T) {
	x := started()
	for i, name := range eight() {
		x.commit(t, name, span(i, i+3), "m")
		x.held(t)
	}
	for i, c := range x.r.Commits() {
		if len(c.Parents) != 0 {
			t.Errorf("commit %d has parents: %v", i, c)
		}
	}
}

// Just the same parent, graph and Message: no commit more, but the branch leads to the one that is there.
func TestCommitAgain(t *testing.T) {
	x := started()
	x.commit(t, "a", list("aaa"), "m")
	x.commit(t, "a", list("bbb"), "m")
	x.commit(t, "a", list("aaa"), "m")
	x.commit(t, "a", list("bbb"), "m")
	for at, g := range [][]api.Triple{list("aaa"), list("bbb"), list("aaa"), list("bbb")} {
		if got := x.commit(t, "again", g, "m"); got != at {
			t.Errorf("commit %d came again as %d", at, got)
		}
		x.held(t)
	}
	for at := range 3 {
		x.branch(t, "b", at)
		if got := x.commit(t, "b", [][]api.Triple{list("bbb"), list("aaa"), list("bbb")}[at], "m"); got != at+1 {
			t.Errorf("commit %d came again as %d", at+1, got)
		}
		x.drop(t, "b")
	}
	x.held(t)
	if len(x.m.commits) != 4 {
		t.Errorf("%d commits, want 4", len(x.m.commits))
	}
}

// What is unlike in one of them is one more.
func TestCommitUnlikeInOne(t *testing.T) {
	x := started()
	x.commit(t, "a", list("aaa"), "m")
	for i, c := range []struct {
		set     []api.Triple
		message string
	}{
		{list("aaa"), ""}, {list("aaa"), "M"}, {list("aaa"), "m "}, {list("aaa"), " m"},
		{nil, "m"}, {list("aab"), "m"}, {list("aaa", "aab"), "m"},
	} {
		if got := x.commit(t, "n"+string(rune('a'+i)), c.set, c.message); got != i+1 {
			t.Errorf("%v came as %d, want %d", c, got, i+1)
		}
	}
	x.held(t)
	// Of another parent: the same change, and the same graph.
	x = started()
	x.commit(t, "a", list("aaa"), "m")
	x.commit(t, "b", list("bbb"), "m")
	x.commit(t, "a", list("aaa", "ccc"), "m")
	if got := x.commit(t, "b", list("bbb", "ccc"), "m"); got != 3 {
		t.Errorf("the same change of another parent came as %d, want 3", got)
	}
	if got := x.commit(t, "c", list("aaa", "ccc"), "m"); got != 4 {
		t.Errorf("the same graph of no parent came as %d, want 4", got)
	}
	if got := x.commit(t, "c", list("bbb", "ccc"), "m"); got != 5 {
		t.Errorf("the same graph of another parent came as %d, want 5", got)
	}
	x.held(t)
}

// A set that is the graph already is a commit of its own: nothing has changed, but its parent has.
func TestCommitOfNoChange(t *testing.T) {
	x := started()
	for range 5 {
		x.commit(t, "a", list("abc"), "m")
	}
	x.held(t)
	if len(x.m.commits) != 5 || len(x.m.objects) != 2 {
		t.Errorf("%d commits and %d objects, want 5 and 2", len(x.m.commits), len(x.m.objects))
	}
}

// A Commit is none that has a second parent, whatever else is the same.
func TestCommitIsNoJoin(t *testing.T) {
	x := started()
	x.commit(t, "a", list("aaa"), "m")
	x.commit(t, "b", list("bbb"), "m")
	joined := x.join(t, "a", 1, list("aaa", "bbb"), "m")
	x.move(t, "a", joined, 0)
	if got := x.commit(t, "a", list("aaa", "bbb"), "m"); got == joined {
		t.Errorf("Commit came to %d, which has two parents", got)
	}
	x.held(t)
}

// An empty list and nil are the same.
func TestCommitOfNothing(t *testing.T) {
	x := started()
	x.commit(t, "a", nil, "")
	if got := x.commit(t, "b", []api.Triple{}, ""); got != 0 {
		t.Errorf("an empty list came as %d, want 0", got)
	}
	x.held(t)
}

func TestCommitNames(t *testing.T) {
	for _, name := range goodNames() {
		x := started()
		x.commit(t, name, list("abc"), "m")
		x.commit(t, name, nil, "m")
		x.held(t)
	}
	x := started()
	x.commit(t, "a", list("abc"), "m")
	for _, name := range badNames() {
		n, err := x.r.Commit(name, nil, "m")
		wantNumber(t, strconv.Quote(name), n, err, 0, api.ErrSyntax)
	}
	x.held(t)
}

func TestCommitFaults(t *testing.T) {
	x := started()
	for range 2 {
		for _, f := range faults() {
			for _, name := range []string{"a", "b"} {
				n, err := x.r.Commit(name, f.l, "m")
				wantNumber(t, f, n, err, 0, f.want)
			}
		}
		x.held(t)
		x.commit(t, "a", list("abc"), "m")
	}
	x.held(t)
}

func TestCommitMessages(t *testing.T) {
	x := started()
	good := []string{"", " ", "~", " ~ ", strings.Repeat("m", api.MaxText), strings.Repeat(" ", api.MaxText), `"\'@`}
	for _, m := range good {
		x.commit(t, "a", nil, m)
	}
	x.held(t)
	for n := range 256 {
		y := started()
		y.commit(t, "a", nil, string([]byte{byte(n)}))
		y.commit(t, "a", nil, "m"+string([]byte{byte(n)}))
		y.commit(t, "b", nil, strings.Repeat("m", api.MaxText-1)+string([]byte{byte(n)}))
		y.commit(t, "b", nil, strings.Repeat("m", api.MaxText)+string([]byte{byte(n)}))
		y.held(t)
	}
	for _, c := range []struct {
		message string
		want    api.Errno
	}{
		{strings.Repeat("m", api.MaxText+1), api.ErrFull},
		{strings.Repeat("\n", api.MaxText+1), api.ErrFull},
		{strings.Repeat("\u00e9", api.MaxText/2+1), api.ErrFull},
		{strings.Repeat("m", 1<<16), api.ErrFull},
		{strings.Repeat("\u00e9", api.MaxText/2), api.ErrSyntax},
		{"\n", api.ErrSyntax},
		{"m\x7f", api.ErrSyntax},
	} {
		for _, name := range []string{"a", "b"} {
			n, err := x.r.Commit(name, nil, c.message)
			wantNumber(t, c, n, err, 0, c.want)
		}
	}
	x.held(t)
}

// Of several faults the first is told: the name's, the set's, the Message's, and then what is full.
func TestCommitTellsFirst(t *testing.T) {
	x := started()
	for i, name := range eight() {
		x.commit(t, name, span(i, i+1), "m")
	}
	for range 2 {
		for _, message := range []string{"m", "\n", strings.Repeat("m", api.MaxText+1)} {
			for _, f := range append(faults(), faulty{nil, api.OK}) {
				n, err := x.r.Commit("A", f.l, message)
				wantNumber(t, f, n, err, 0, api.ErrSyntax)
				if f.want == api.OK {
					continue
				}
				n, err = x.r.Commit("new", f.l, message)
				wantNumber(t, f, n, err, 0, f.want)
			}
		}
		n, err := x.r.Commit("new", nil, "\n")
		wantNumber(t, "a Message, and no room", n, err, 0, api.ErrSyntax)
		n, err = x.r.Commit("new", nil, "m")
		wantNumber(t, "no room", n, err, 0, api.ErrFull)
		x.held(t)
		// And so where there is no room for a commit either.
		for i := len(x.m.commits); i < api.MaxCommits; i++ {
			x.commit(t, "a", span(i, i+1), "m")
		}
		n, err = x.r.Commit("a", nil, "\n")
		wantNumber(t, "a Message, and no room for a commit", n, err, 0, api.ErrSyntax)
		x.held(t)
	}
}

// Where there are all branches that may be, a new one is too many, also where the commit is there already.
func TestCommitMostNames(t *testing.T) {
	x := started()
	for i, name := range eight() {
		x.commit(t, name, span(i, i+1), "m")
	}
	for _, c := range []struct {
		set []api.Triple
		m   string
	}{{span(0, 1), "m"}, {span(7, 8), "m"}, {nil, "new"}, {span(0, most), ""}} {
		for _, name := range []string{"c", "x", "zzz"} {
			n, err := x.r.Commit(name, c.set, c.m)
			wantNumber(t, name, n, err, 0, api.ErrFull)
		}
	}
	x.held(t)
	for _, name := range eight() {
		x.commit(t, name, span(50, 51), "m")
	}
	x.held(t)
	// One that is gone makes room for one.
	x.drop(t, "main")
	x.commit(t, "new", nil, "m")
	n, err := x.r.Commit("main", nil, "m")
	wantNumber(t, "main", n, err, 0, api.ErrFull)
	x.held(t)
}

// filled makes both with as many commits as may be, one behind the other on one branch.
func filled(t *testing.T) both {
	t.Helper()
	x := started()
	for i := range api.MaxCommits {
		if got := x.commit(t, "a", span(i, i+2), "m"); got != i {
			t.Fatalf("commit %d came as %d", i, got)
		}
	}
	return x
}

// Where there are all commits that may be, one more is too many; one that is there already is not one more.
func TestCommitMostCommits(t *testing.T) {
	x := filled(t)
	x.held(t)
	for _, name := range []string{"a", "b"} {
		for _, set := range [][]api.Triple{nil, list("abc"), span(0, most)} {
			n, err := x.r.Commit(name, set, "m")
			wantNumber(t, name, n, err, 0, api.ErrFull)
		}
	}
	x.held(t)
	for i := range api.MaxCommits {
		if got := x.commit(t, "b", span(i, i+2), "m"); got != i {
			t.Errorf("commit %d came again as %d", i, got)
		}
	}
	n, err := x.r.Commit("c", span(0, 2), "n")
	wantNumber(t, "another Message", n, err, 0, api.ErrFull)
	x.held(t)
	// No branch that is gone makes room for a commit: commits stay.
	x.drop(t, "a")
	x.drop(t, "b")
	n, err = x.r.Commit("a", nil, "m")
	wantNumber(t, "a", n, err, 0, api.ErrFull)
	x.held(t)
}

// Objects of many bytes: what has no room for its Layer is no commit, makes no branch, and leaves the room to others.
func TestCommitMostBytes(t *testing.T) {
	x := started()
	x.commit(t, "a", wide(0, most), "m")
	x.commit(t, "b", wide(most, 2*most), "m")
	x.commit(t, "c", wide(2*most, 3*most), "m")
	size := 0
	for _, b := range x.m.objects {
		size += len(b)
	}
	left := api.MaxBytes - size
	if left < 1000 || left > len(x.m.objects[0]) {
		t.Fatalf("%d bytes are left, want some, and fewer than an object has", left)
	}
	for _, name := range []string{"a", "d"} {
		n, err := x.r.Commit(name, wide(3*most, 4*most), "m")
		wantNumber(t, name, n, err, 0, api.ErrFull)
	}
	x.held(t)
	// What is there already needs no room.
	x.commit(t, "d", wide(0, most), "n")
	x.commit(t, "d", wide(0, most), "n")
	x.held(t)
}

// Just as many bytes as there is room for, and one more.
func TestCommitNearMostBytes(t *testing.T) {
	for _, over := range []int{-1, 0, 1, 2} {
		x := started()
		x.commit(t, "a", wide(0, most), "m")
		x.commit(t, "b", wide(most, 2*most), "m")
		x.commit(t, "c", wide(2*most, 3*most), "m")
		left := api.MaxBytes - len(strings.Join(x.m.objects, "")) + over
		set := sized(t, left)
		before := len(x.m.commits)
		x.commit(t, "d", set, "m")
		if got := len(x.m.commits) > before; got != (over <= 0) {
			t.Errorf("%d bytes over: a commit more is %v", over, got)
		}
		x.held(t)
	}
}

// sized makes a set whose Layer from nothing has so many bytes.
func sized(t *testing.T, size int) []api.Triple {
	t.Helper()
	set := wide(5000, 5000+(size-12)/80)
	last := said(anon("z"), named("p"), text("", ""))
	last.O.S = strings.Repeat("x", max(0, min(api.MaxText, size-len(change(nil, append(set, last))))))
	last.S.S += strings.Repeat("z", max(0, min(api.MaxText-1, size-len(change(nil, append(set, last))))))
	last.P.S += strings.Repeat("p", max(0, min(api.MaxText-1, size-len(change(nil, append(set, last))))))
	set = append(set, last)
	if got := len(change(nil, set)); got != size {
		t.Fatalf("made %d bytes, want %d", got, size)
	}
	return set
}

// A set that is handed in is neither written nor kept, nor is what lies behind its length read.
func TestCommitLeavesTheSet(t *testing.T) {
	x := started()
	room := append(list("aaa", "bbb"), api.Triple{}, api.Triple{})
	kept := slices.Clone(room)
	n, err := x.r.Commit("a", room[:2], "m")
	wantNumber(t, "a", n, err, 0, api.OK)
	n, err = x.r.Join("a", 0, room[:2], "m")
	wantNumber(t, "a", n, err, 0, api.ErrClash)
	n, err = x.r.Commit("b", room[:0], "m")
	wantNumber(t, "b", n, err, 1, api.OK)
	n, err = x.r.Join("a", 1, room[:1], "m")
	wantNumber(t, "a", n, err, 2, api.OK)
	if !slices.Equal(room, kept) {
		t.Errorf("what was handed in was written: %v", room)
	}
	clear(room)
	for at, want := range [][]api.Triple{list("aaa", "bbb"), nil, list("aaa")} {
		g, err := x.r.Graph(at)
		wantSet(t, at, g, err, want)
	}
}

// Texts that are handed in are not kept: their memory may be written when nobody has them any more.
func TestCommitKeepsNoMemory(t *testing.T) {
	memory := []byte("mainnote")
	name, message := unsafe.String(&memory[0], 4), unsafe.String(&memory[4], 4)
	other := []byte("side")
	side := unsafe.String(&other[0], 4)
	r := repo.New()
	n, err := r.Commit(name, nil, message)
	wantNumber(t, name, n, err, 0, api.OK)
	// Again: a name that is there already is not kept either.
	n, err = r.Commit(name, nil, message)
	wantNumber(t, name, n, err, 1, api.OK)
	wantTold(t, side, r.Branch(side, 0), api.OK)
	wantTold(t, name, r.Move(name, 1, 0), api.OK)
	copy(memory, "xxxxxxxx")
	copy(other, "yyyy")
	if got, want := r.Refs(), []api.Ref{{Name: "main", Commit: 0}, {Name: "side", Commit: 0}}; !slices.Equal(got, want) {
		t.Errorf("Refs() = %v, want %v", got, want)
	}
	for _, want := range []string{"main", "side"} {
		n, err := r.Head(want)
		wantNumber(t, want, n, err, 0, api.OK)
	}
	for i, c := range r.Commits() {
		if c.Message != "note" {
			t.Errorf("commit %d = %v, want the message note", i, c)
		}
	}
}

// What is told is the caller's: written into, and more behind it, it changes nothing, nor another answer.
func TestAnswersAreTheCallers(t *testing.T) {
	x := started()
	x.commit(t, "a", list("aaa", "bbb"), "m")
	x.commit(t, "b", nil, "m")
	x.commit(t, "a", list("bbb"), "m")
	x.join(t, "a", 1, list("ccc"), "m")
	x.commit(t, "a", list("ccc"), "m")
	scribble(t, x.r)
	x.held(t)
	one, two := x.r.Commits(), x.r.Commits()
	for i := range one {
		for j := range one[i].Parents {
			one[i].Parents[j] = 77
		}
		_ = append(one[i].Parents, 78)
		one[i] = api.Commit{}
	}
	for i, c := range two {
		if !slices.Equal(c.Parents, x.m.commits[i].Parents) || c.Layer == 0 {
			t.Errorf("commit %d = %v behind a write into another answer", i, c)
		}
	}
	x.commit(t, "a", nil, "more")
	if len(two) != 5 {
		t.Errorf("what was told has %d commits behind another one, want 5", len(two))
	}
	x.held(t)
}

// scribble writes into all that a Repo tells.
func scribble(t *testing.T, r *repo.Repo) {
	t.Helper()
	for i, c := range r.Commits() {
		g, err := r.Graph(i)
		wantTold(t, i, err, api.OK)
		clear(g)
		_ = append(g, api.Triple{})
		clear(c.Parents)
		_ = append(c.Parents, 9)
	}
	l := r.Commits()
	clear(l)
	_ = append(l[:1], api.Commit{})
	refs := r.Refs()
	clear(refs)
	_ = append(refs[:1], api.Ref{})
}

// Texts that are told are fresh, too.
func TestTextsAreFresh(t *testing.T) {
	name, message, set := "abcdefghij", strings.Repeat("m", api.MaxText), wide(0, 1)
	r := repo.New()
	n, err := r.Commit(name, set, message)
	wantNumber(t, name, n, err, 0, api.OK)
	told := func() []string {
		g, err := r.Graph(0)
		wantTold(t, 0, err, api.OK)
		b, err := r.Object(1)
		wantTold(t, 1, err, api.OK)
		return []string{r.Refs()[0].Name, r.Commits()[0].Message, b, g[0].S.S, g[0].P.S, g[0].O.S, g[0].O.Lang}
	}
	seen := map[*byte]string{}
	for _, s := range slices.Concat([]string{name, message, set[0].S.S, set[0].P.S, set[0].O.S, set[0].O.Lang}, told(), told()) {
		at := unsafe.StringData(s)
		if _, ok := seen[at]; ok {
			t.Errorf("%q shares memory", s)
		}
		seen[at] = s
	}
}

// One Repo knows nothing of another one.
func TestTwoRepos(t *testing.T) {
	x, y := started(), started()
	x.commit(t, "a", list("aaa"), "m")
	y.held(t)
	y.commit(t, "b", list("bbb"), "n")
	y.commit(t, "a", list("aaa"), "m")
	x.commit(t, "a", list("bbb"), "m")
	x.held(t)
	y.held(t)
	started().held(t)
}
