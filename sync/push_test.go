package sync_test

import (
	"strconv"
	"testing"

	"strataweb/api"
	"strataweb/repo"
	"strataweb/sync"
)

// A branch that is not there is new; with it come all commits, and no other branch.
func TestPushNew(t *testing.T) {
	from, to := repo.New(), repo.New()
	commit(t, from, "other", list("ooo"), "other")
	commit(t, from, "main", list("aaa"), "root")
	commit(t, from, "main", list("bbb"), "next")
	wantPush(t, from, to, "main", 2)
	wantShown(t, to, "[{main 2}]", "0 [] other", "1 [] root", "2 [1] next")
	wantGraph(t, to, 2, list("bbb"))

	// There are others there already, one of them the branch's own.
	to = repo.New()
	commit(t, to, "own", list("zzz"), "own")
	commit(t, to, "side", list("aaa"), "root")
	commit(t, to, "side", list("bbb"), "next")
	wantPush(t, from, to, "main", 2)
	wantPush(t, from, to, "other", 3)
	wantShown(t, to, "[{main 2} {other 3} {own 0} {side 2}]", "0 [] own", "1 [] root", "2 [1] next", "3 [] other")
}

// A branch that leads to an ancestor goes on; once there, it stays.
func TestPushOn(t *testing.T) {
	from := line(t, "main", "m", 6)
	for ahead := range 6 {
		to := repo.New()
		commit(t, to, "own", list("zzz"), "own")
		for i := range ahead + 1 {
			commit(t, to, "main", list("aaa", "bbb")[i%2:], "m")
		}
		branch(t, to, "side", ahead)
		wantPush(t, from, to, "main", 6)
		wantPush(t, from, to, "main", 6)
		wantShown(t, to, "[{main 6} {own 0} {side "+strconv.Itoa(ahead)+"}]",
			"0 [] own", "1 [] m", "2 [1] m", "3 [2] m", "4 [3] m", "5 [4] m", "6 [5] m")
	}
}

// Both parents of a Join are its ancestors: it does not matter by which of them.
func TestPushOnByEitherParent(t *testing.T) {
	from := repo.New()
	commit(t, from, "main", list("aaa"), "root")
	branch(t, from, "side", 0)
	commit(t, from, "main", list("bbb"), "left")
	commit(t, from, "side", list("ccc"), "right")
	join(t, from, "main", 2, list("ddd"), "joined")
	for at := range 4 {
		to := copied(t, from)
		branch(t, to, "main", at)
		wantPush(t, from, to, "main", 3)
		wantShown(t, to, "[{main 3} {side 2}]", "0 [] root", "1 [0] left", "2 [0] right", "3 [1 2] joined")
	}
}

// To itself: each branch leads there already.
func TestPushToItself(t *testing.T) {
	r := full(t)
	before := shown(r)
	wantPush(t, r, r, "a", 0)
	wantPush(t, r, r, "h", 7)
	wantNoPush(t, r, r, "x", api.ErrNone)
	wantNoPush(t, r, r, "X", api.ErrSyntax)
	if shown(r) != before {
		t.Errorf("there is\n%s\nwas\n%s", shown(r), before)
	}
}

// What from's Head tells is told ahead of all, and nothing comes.
func TestPushOfNone(t *testing.T) {
	for _, from := range []*repo.Repo{repo.New(), line(t, "main", "m", 3), line(t, "main", "n", api.MaxCommits)} {
		for _, to := range []*repo.Repo{repo.New(), full(t), line(t, "side", "m", 2), line(t, "side", "m", api.MaxCommits)} {
			for _, name := range badNames() {
				wantNoPush(t, from, to, name, api.ErrSyntax)
			}
			// There may be one where it would go.
			for _, name := range []string{"side", "a", "x", "abcdefghij"} {
				wantNoPush(t, from, to, name, api.ErrNone)
			}
		}
	}
}

// A branch that leads to no ancestor stays; all commits have come.
func TestPushRefused(t *testing.T) {
	for _, c := range []struct {
		what string
		made func(to *repo.Repo)
	}{
		{"one that came of nothing", func(to *repo.Repo) {
			commit(t, to, "main", list("zzz"), "own")
		}},
		{"one that came of the same", func(to *repo.Repo) {
			commit(t, to, "main", list("aaa"), "root")
			commit(t, to, "main", list("aaa"), "own")
		}},
		{"one that came of it", func(to *repo.Repo) {
			commit(t, to, "main", list("aaa"), "root")
			commit(t, to, "main", list("bbb"), "next")
			commit(t, to, "main", list("ccc"), "own")
		}},
		{"one on another branch", func(to *repo.Repo) {
			commit(t, to, "main", list("ooo"), "other")
		}},
	} {
		from, to := repo.New(), repo.New()
		commit(t, from, "main", list("aaa"), "root")
		commit(t, from, "other", list("ooo"), "other")
		commit(t, from, "main", list("bbb"), "next")
		c.made(to)
		wantRefused(t, to, from, api.ErrState, func() (int, error) { return sync.Push(from, to, "main") })
		if len(sync.Names(to)) < 3 {
			t.Errorf("%s: there are just %d commits", c.what, len(sync.Names(to)))
		}
	}
}

// There is no room for one more branch: nothing has come. One that is there needs no room.
func TestPushMostNames(t *testing.T) {
	from, to := repo.New(), full(t)
	commit(t, from, "x", list("xxx"), "m")
	commit(t, from, "a", span("ap", 0, 1), "m")
	commit(t, from, "a", list("aaa"), "m")
	commit(t, from, "b", list("zzz"), "m")
	wantNoPush(t, from, to, "x", api.ErrFull)
	wantPush(t, from, to, "a", 9)
	wantNoPush(t, from, to, "x", api.ErrFull)
	wantRefused(t, to, from, api.ErrState, func() (int, error) { return sync.Push(from, to, "b") })
	if err := to.Drop("b"); err != nil {
		t.Fatal(err)
	}
	wantPush(t, from, to, "x", 8)
	wantNoPush(t, from, to, "b", api.ErrFull)
}

// What Import tells is told ahead of how the branches stand, and nothing has come.
func TestPushFull(t *testing.T) {
	from := line(t, "main", "n", 2)
	for _, name := range []string{"main", "other"} {
		to := line(t, name, "m", api.MaxCommits-1)
		wantNoPush(t, from, to, "main", api.ErrFull)
		commit(t, to, name, list("zzz"), "last")
		wantNoPush(t, from, to, "main", api.ErrFull)
	}
	// There is just room.
	to := line(t, "other", "m", api.MaxCommits-2)
	wantPush(t, from, to, "main", api.MaxCommits-1)
	wantPush(t, from, to, "main", api.MaxCommits-1)
	// All commits come: also what is not the branch's needs room.
	commit(t, from, "side", list("sss"), "side")
	wantNoPush(t, from, to, "main", api.ErrFull)
}
