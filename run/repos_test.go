package run_test

import (
	"strconv"
	"strings"
	"testing"

	"strataweb/api"
)

// Commit is of one, give of two: each counts its own, and knows its own branches alone.
func TestCommitGive(t *testing.T) {
	wantSession(t,
		step{"commit m", "0"},
		step{"twin", "-"},
		step{"give n", "0"},
		step{"twin", "n=0"},
		step{"load n", "ErrNone"},
		step{"load m", "0"},
		step{"add a p a", "new"},
		step{"commit m", "1"},
		step{"commit m", "2"},
		step{"commit k", "3"},
		step{"twin", "n=0"},
		step{"give n", "1"},
		step{"give m", "2"},
		step{"twin", "m=1,n=1"},
		step{"take a p a", "new"},
		step{"twin", "m=1,n=1"},
		step{"give m", "3"},
		step{"twin", "m=0,n=1"},
		step{"load k", "1"},
		step{"load m", "1"},
	)
}

// What has just that parent, graph and message is there already.
func TestCommitAgain(t *testing.T) {
	for _, word := range []string{"commit", "give"} {
		wantSession(t,
			step{word + " a", "0"},
			step{word + " b", "0"},
			step{word + " c", "0"},
			step{word + " a", "1"},
			step{word + " b", "1"},
			step{"add a p a", "new"},
			step{word + " c", "2"},
			step{word + " d", "3"},
			step{"take a p a", "new"},
			step{word + " a", "4"},
			step{word + " d", "5"},
			step{word + " e", "0"},
			step{word + " e", "1"},
			step{word + " e", "4"},
		)
	}
}

// Load takes the branch's graph, whatever the set was; with an error the set stays.
func TestLoad(t *testing.T) {
	wantSession(t,
		step{"add a p a", "new"},
		step{"commit m", "0"},
		step{"add b p b", "new"},
		step{"take a p a", "new"},
		step{"commit n", "1"},
		step{"add c p c", "new"},
		step{"load m", "1"},
		step{"ask select ?x where ?x p ?x", "a"},
		step{"load k", "ErrNone"},
		step{"load M", "ErrSyntax"},
		step{"load ", "ErrSyntax"},
		step{"size", "1"},
		step{"ask select ?x where ?x p ?x", "a"},
		step{"load n", "1"},
		step{"ask select ?x where ?x p ?x", "b"},
		step{"add a p a", "new"},
		step{"load n", "1"},
		step{"commit m", "2"},
		step{"load m", "1"},
		step{"ask select ?x where ?x p ?x", "b"},
		step{"take b p b", "new"},
		step{"load n", "1"},
		step{"load m", "1"},
	)
}

// From one to two: a branch that is new, one that goes on, one that is there, and one that two has gone on with.
func TestPush(t *testing.T) {
	wantSession(t,
		step{"push m", "ErrNone"},
		step{"add a p a", "new"},
		step{"commit m", "0"},
		step{"commit n", "0"},
		step{"push m", "0"},
		step{"twin", "m=1"},
		step{"push m", "0"},
		step{"add b p b", "new"},
		step{"commit m", "1"},
		step{"commit m", "2"},
		step{"push n", "0"},
		step{"twin", "m=1,n=1"},
		step{"push m", "2"},
		step{"twin", "m=2,n=1"},
		step{"push k", "ErrNone"},
		step{"add c p c", "new"},
		step{"give m", "3"},
		step{"push m", "ErrState"},
		step{"twin", "m=3,n=1"},
		step{"load m", "2"},
	)
}

// What a push that is refused has brought stays: what two is given then counts from there on.
func TestPushRefused(t *testing.T) {
	wantSession(t,
		step{"add b p b", "new"},
		step{"give m", "0"},
		step{"take b p b", "new"},
		step{"commit m", "0"},
		step{"commit m", "1"},
		step{"push m", "ErrState"},
		step{"twin", "m=1"},
		step{"give k", "1"},
		step{"give k", "2"},
		step{"give k", "3"},
		step{"push m", "ErrState"},
		step{"twin", "k=0,m=1"},
	)
}

// The commits that come have other numbers there.
func TestPushNumbers(t *testing.T) {
	wantSession(t,
		step{"give k", "0"},
		step{"give k", "1"},
		step{"add a p a", "new"},
		step{"commit m", "0"},
		step{"commit n", "0"},
		step{"push m", "2"},
		step{"push n", "2"},
		step{"pull k", "2"},
		step{"pull m", "0"},
		step{"load k", "0"},
	)
}

// Two's into one: a branch that is new, one that goes on, one that is there, one of which one has more, and two that went apart.
func TestPull(t *testing.T) {
	wantSession(t,
		step{"pull m", "ErrNone"},
		step{"add a p a", "new"},
		step{"give m", "0"},
		step{"load m", "ErrNone"},
		step{"pull m", "0"},
		step{"load m", "1"},
		step{"add b p b", "new"},
		step{"give m", "1"},
		step{"load m", "1"},
		step{"pull m", "1"},
		step{"pull m", "1"},
		step{"load m", "2"},
		step{"add c p c", "new"},
		step{"commit m", "2"},
		step{"pull m", "2"},
		step{"twin", "m=2"},
		step{"take c p c", "new"},
		step{"take a p a", "new"},
		step{"give m", "2"},
		step{"pull m", "4"},
		step{"load m", "2"},
		step{"ask select ?x where ?x p ?x", "b;c"},
		step{"twin", "m=1"},
		step{"pull m", "4"},
		step{"push m", "4"},
		step{"twin", "m=2"},
		step{"pull m", "4"},
		step{"commit m", "5"},
	)
}

// What both have changed unlike is told, and so is that they did not come of one; one is as it was then, and so is the set.
func TestPullRefused(t *testing.T) {
	wantSession(t,
		step{"add a p a", "new"},
		step{"commit m", "0"},
		step{"push m", "0"},
		step{"add a p b", "new"},
		step{"commit m", "1"},
		step{"take a p a", "new"},
		step{"give m", "1"},
		step{"pull m", "ErrSides"},
		step{"load m", "2"},
		step{"push m", "ErrState"},
		step{"commit n", "3"},
		step{"take a p b", "new"},
		step{"give n", "0"},
		step{"pull n", "ErrState"},
		step{"size", "1"},
		step{"load n", "2"},
		step{"pull k", "ErrNone"},
		step{"twin", "m=1,n=1"},
	)
}

// Of a merge that would be too great that is told.
func TestPullFull(t *testing.T) {
	text := added(shorts(api.MaxSet-1)) + lines("commit m", "push m", "add y y y", "commit m", "load m", "take y y y", "add z z z", "give m", "pull m", "load m", "twin")
	want := strings.Repeat("new\n", api.MaxSet-1) + lines("0", "0", "new", "1", "200", "new", "new", "1", "ErrFull", "200", "m=200")
	wantRun(t, text, want)
}

// Branches are told by name, each with how many its graph has.
func TestTwin(t *testing.T) {
	wantSession(t,
		step{"twin", "-"},
		step{"give n", "0"},
		step{"twin", "n=0"},
		step{"add a p a", "new"},
		step{"give m", "1"},
		step{"add b p a", "new"},
		step{"give mm", "2"},
		step{"give abcdefghij", "2"},
		step{"add c p a", "new"},
		step{"give z", "3"},
		step{"twin", "abcdefghij=2,m=1,mm=2,n=0,z=3"},
		step{"give m", "4"},
		step{"take a p a", "new"},
		step{"give z", "5"},
		step{"commit k", "0"},
		step{"twin", "abcdefghij=2,m=3,mm=2,n=0,z=2"},
		step{"push k", "6"},
		step{"twin", "abcdefghij=2,k=2,m=3,mm=2,n=0,z=2"},
	)
}

// There is room for so many branches in one, and for as many in two.
func TestMostBranches(t *testing.T) {
	var steps []step
	twin := ""
	for _, name := range strings.Split("hgfedcba", "") {
		steps = append(steps, step{"commit " + name, "0"}, step{"give " + name, "0"})
		twin = name + "=0," + twin
	}
	twin = strings.TrimSuffix(twin, ",")
	wantSession(t, append(steps,
		step{"commit i", "ErrFull"},
		step{"give i", "ErrFull"},
		step{"twin", twin},
		step{"push i", "ErrNone"},
		step{"pull i", "ErrNone"},
		step{"commit a", "1"},
		step{"give h", "1"},
		step{"push a", "1"},
		step{"twin", twin})...)
}

// A branch that would be one too many does not come, and nothing with it.
func TestMostBranchesCarried(t *testing.T) {
	for _, words := range [][3]string{{"commit", "give", "push"}, {"give", "commit", "pull"}} {
		steps := []step{{"add a p a", "new"}, {words[0] + " i", "0"}, {"take a p a", "new"}}
		for _, name := range strings.Split("abcdefgh", "") {
			steps = append(steps, step{words[1] + " " + name, "0"})
		}
		wantSession(t, append(steps,
			step{words[2] + " i", "ErrFull"},
			step{words[1] + " i", "ErrFull"},
			step{words[1] + " a", "1"})...)
	}
}

// There is room for so many commits.
func TestMostCommits(t *testing.T) {
	for _, word := range []string{"commit", "give"} {
		text := strings.Repeat(word+" m\n", api.MaxCommits)
		wantRun(t, text, counted(api.MaxCommits))
		wantRun(t, text+word+" m\n"+word+" n\n"+word+" n\n"+word+" n\nsize\n", counted(api.MaxCommits)+"ErrFull\n0\n1\n2\n0\n")
	}
	for _, words := range [][3]string{{"commit", "give", "push"}, {"give", "commit", "pull"}} {
		text := strings.Repeat(words[0]+" m\n", api.MaxCommits)
		last := strconv.Itoa(api.MaxCommits-1) + "\n"
		wantRun(t, text+words[2]+" m\n", counted(api.MaxCommits)+last)
		wantRun(t, text+lines(words[1]+" m", "add a p a", words[1]+" n", words[2]+" m", words[1]+" m"), counted(api.MaxCommits)+lines("0", "new", "1", "ErrFull", "2"))
	}
}

// A long way is gone in time, however often: each push and pull looks at all commits.
func TestLongWay(t *testing.T) {
	text := added(shorts(80)) + strings.Repeat("commit m\n", api.MaxCommits)
	want := strings.Repeat("new\n", 80) + counted(api.MaxCommits)
	for len(text) <= api.MaxRun-len("push m\npull m\n") {
		text += "push m\npull m\n"
		want += "59\n59\n"
	}
	wantRun(t, text, want)
}
