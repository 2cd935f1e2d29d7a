package repo_test

import (
	"math/rand"
	"slices"
	"strconv"
	"testing"

	"strataweb/api"
	"strataweb/repo"
)

func TestBranch(t *testing.T) {
	x := apart(t)
	for i, name := range []string{"new", "zz", "aa"} {
		x.branch(t, name, i)
		x.held(t)
	}
	// What is committed on it comes of where it leads, and moves no other one.
	x.commit(t, "zz", list("yyy"), "m")
	x.commit(t, "new", list("yyy"), "m")
	x.held(t)
	if got := x.r.Commits()[4].Parents; !slices.Equal(got, []int{1}) {
		t.Errorf("a commit on a new branch has the parents %v, want 1", got)
	}
}

func TestBranchNames(t *testing.T) {
	for _, name := range goodNames() {
		x := started()
		x.commit(t, "other", nil, "m")
		x.commit(t, "other", nil, "m")
		x.branch(t, name, 1)
		x.held(t)
	}
	x := apart(t)
	for _, name := range badNames() {
		for _, at := range []int{0, 1, -1, 4} {
			wantTold(t, strconv.Quote(name), x.r.Branch(name, at), api.ErrSyntax)
		}
	}
	x.held(t)
}

// Of several faults the first is told: the name's, no such commit, one that is there, too many.
func TestBranchTellsFirst(t *testing.T) {
	x := started()
	wantTold(t, "of nothing", x.r.Branch("a", 0), api.ErrRange)
	wantTold(t, "of nothing", x.r.Branch("A", 0), api.ErrSyntax)
	x = apart(t)
	for range 2 {
		for _, at := range beyond(len(x.m.commits)) {
			wantTold(t, at, x.r.Branch("A", at), api.ErrSyntax)
			wantTold(t, at, x.r.Branch("new", at), api.ErrRange)
			wantTold(t, at, x.r.Branch("a", at), api.ErrRange)
		}
		for at := range len(x.m.commits) {
			wantTold(t, at, x.r.Branch("A", at), api.ErrSyntax)
			wantTold(t, at, x.r.Branch("a", at), api.ErrClash)
		}
		x.held(t)
		// And so where there are all that may be.
		for i := 0; len(x.m.refs) < api.MaxNames; i++ {
			x.branch(t, "n"+string(rune('a'+i)), 0)
		}
		wantTold(t, "one more", x.r.Branch("new", 0), api.ErrFull)
		x.held(t)
	}
}

func TestBranchMostNames(t *testing.T) {
	x := started()
	x.commit(t, "h", list("abc"), "m")
	for _, name := range eight()[1:] {
		x.branch(t, name, 0)
	}
	x.held(t)
	for _, name := range []string{"c", "n", "zzz"} {
		wantTold(t, name, x.r.Branch(name, 0), api.ErrFull)
	}
	x.held(t)
	// One that is gone makes room for one, that or another.
	for _, name := range []string{"h", "new"} {
		x.drop(t, "h")
		x.drop(t, "new")
		x.branch(t, name, 0)
		wantTold(t, "one more", x.r.Branch("more", 0), api.ErrFull)
		x.held(t)
	}
}

// To any commit, also to one of which its own comes not, and to where it leads.
func TestMove(t *testing.T) {
	x := apart(t)
	at := 1
	for _, to := range []int{0, 2, 2, 3, 1, 0, 3} {
		x.move(t, "a", at, to)
		x.held(t)
		at = to
	}
	if got, err := x.r.Head("a"); got != 3 || err != nil {
		t.Errorf("Head(a) = %d, %v, want 3", got, err)
	}
	// What is committed then comes of where it leads.
	x.commit(t, "a", list("yyy"), "m")
	if got := x.r.Commits()[4].Parents; !slices.Equal(got, []int{3}) {
		t.Errorf("a commit on a moved branch has the parents %v, want 3", got)
	}
	x.held(t)
}

// Of several faults the first is told: the name's, no such branch, one that leads elsewhere, no such commit.
func TestMoveTellsFirst(t *testing.T) {
	x := apart(t)
	numbers := append(beyond(len(x.m.commits)), 0, 1, 2, 3)
	for _, from := range numbers {
		for _, to := range numbers {
			for _, name := range []string{"", "A", "abcdefghijk"} {
				wantTold(t, name, x.r.Move(name, from, to), api.ErrSyntax)
			}
			wantTold(t, "none", x.r.Move("none", from, to), api.ErrNone)
			if from != 1 {
				wantTold(t, from, x.r.Move("a", from, to), api.ErrState)
			}
		}
	}
	for _, to := range beyond(len(x.m.commits)) {
		wantTold(t, to, x.r.Move("a", 1, to), api.ErrRange)
	}
	for _, name := range badNames() {
		wantTold(t, strconv.Quote(name), x.r.Move(name, 1, 0), api.ErrSyntax)
	}
	x.held(t)
	wantTold(t, "of nothing", repo.New().Move("a", 0, 0), api.ErrNone)
}

func TestMoveMostNames(t *testing.T) {
	x := started()
	for i, name := range eight() {
		x.commit(t, name, span(i, i+1), "m")
	}
	for i, name := range eight() {
		x.move(t, name, i, 7-i)
	}
	x.held(t)
}

// A branch that is gone is none any more; the commits stay, and it may come again.
func TestDrop(t *testing.T) {
	x := apart(t)
	for _, name := range []string{"b", "a", "c"} {
		x.drop(t, name)
		x.held(t)
		wantTold(t, name, x.r.Drop(name), api.ErrNone)
		wantTold(t, name, x.r.Move(name, 0, 0), api.ErrNone)
		n, err := x.r.Head(name)
		wantNumber(t, name, n, err, 0, api.ErrNone)
		n, err = x.r.Join(name, 0, nil, "m")
		wantNumber(t, name, n, err, 0, api.ErrNone)
	}
	if got := x.r.Refs(); len(got) != 0 {
		t.Errorf("Refs() = %v, want none", got)
	}
	// Come again, it is new: its commit has no parent.
	if got := x.commit(t, "a", list("aaa"), "root"); got != 0 {
		t.Errorf("the first commit came again as %d", got)
	}
	x.branch(t, "b", 2)
	x.held(t)
}

func TestDropFaults(t *testing.T) {
	x := apart(t)
	for _, name := range badNames() {
		wantTold(t, strconv.Quote(name), x.r.Drop(name), api.ErrSyntax)
	}
	for _, name := range []string{"d", "aa", "ab", "none"} {
		wantTold(t, name, x.r.Drop(name), api.ErrNone)
	}
	x.held(t)
	wantTold(t, "of nothing", repo.New().Drop("a"), api.ErrNone)
}

func TestHeadFaults(t *testing.T) {
	x := apart(t)
	for _, name := range badNames() {
		n, err := x.r.Head(name)
		wantNumber(t, strconv.Quote(name), n, err, 0, api.ErrSyntax)
	}
	for _, name := range []string{"d", "aa", "ab", "none"} {
		n, err := x.r.Head(name)
		wantNumber(t, name, n, err, 0, api.ErrNone)
	}
	x.held(t)
}

// By name, bytes by bytes, not by when they came; told the same each time.
func TestRefsByName(t *testing.T) {
	names := eight()
	x := started()
	x.commit(t, names[0], nil, "m")
	for _, name := range names[1:] {
		x.branch(t, name, 0)
	}
	want := []string{"a", "aa", "abcdefghij", "b", "h", "main", "z", "zz"}
	for range 20 {
		var got []string
		for _, ref := range x.r.Refs() {
			got = append(got, ref.Name)
		}
		if !slices.Equal(got, want) {
			t.Fatalf("Refs() are by %v, want %v", got, want)
		}
	}
}

// step makes a call, of the kind that x tells, with y and z.
func step(t *testing.T, b both, x, y, z byte) {
	t.Helper()
	names := []string{"a", "b", "c", "d", "e", "f", "g", "h", "i", "abcdefghij", "A", "abcdefghijk"}
	name := names[int(y)%len(names)]
	set := picked(universe(), int(z)%32)
	message := []string{"m", "n", "", "\n"}[int(z)/32%4]
	at := int(z)%(len(b.m.commits)+2) - 1
	head, _ := b.m.at(name)
	switch x % 11 {
	case 0, 1, 2, 3:
		b.commit(t, name, set, message)
	case 4, 5:
		b.join(t, name, int(x)/10%(len(b.m.commits)+2)-1, set, message)
	case 6:
		b.branch(t, name, at)
	case 7:
		b.move(t, name, head, at)
	case 8:
		b.move(t, name, int(x)/10-1, at)
	case 9:
		b.drop(t, name)
	case 10:
		b.add(t, someParents(int(x)/10, int(y), len(b.m.commits)), set, "m")
	}
}

// someParents are none, one or two of so many commits, no two alike.
func someParents(x, y, size int) []int {
	switch {
	case size == 0 || x%3 == 0:
		return nil
	case x%size == y%size || x%3 == 1:
		return []int{x % size}
	}
	return []int{x % size, y % size}
}

// Many calls in any order, held against what should be there.
func TestManyCalls(t *testing.T) {
	r := rand.New(rand.NewSource(11))
	for range 150 {
		b := started()
		for range 1 + r.Intn(150) {
			step(t, b, byte(r.Int()), byte(r.Int()), byte(r.Int()))
		}
		b.held(t)
		if t.Failed() {
			return
		}
	}
}

// FuzzCalls holds a Repo against what it should have, behind any calls.
func FuzzCalls(f *testing.F) {
	f.Add([]byte{0, 0, 1, 0, 0, 2, 0, 1, 3, 14, 0, 7, 6, 2, 1, 9, 0, 0})
	f.Add([]byte{0, 0, 31, 0, 1, 31, 24, 0, 5, 7, 0, 1, 24, 0, 5, 8, 3, 3})
	f.Fuzz(func(t *testing.T, calls []byte) {
		b := started()
		for ; len(calls) >= 3; calls = calls[3:] {
			step(t, b, calls[0], calls[1], calls[2])
		}
		b.held(t)
	})
}
