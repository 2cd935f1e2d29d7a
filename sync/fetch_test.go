package sync_test

import (
	"slices"
	"testing"

	"strataweb/api"
	"strataweb/bundle"
	"strataweb/repo"
	"strataweb/sync"
)

// wantFetch fails unless Fetch tells these numbers, the same once more, and moves no branch.
func wantFetch(t testing.TB, to, from *repo.Repo, want ...int) {
	t.Helper()
	refs, before := to.Refs(), shown(from)
	for range 2 {
		got, err := sync.Fetch(to, from)
		wantTold(t, "Fetch", err, api.OK)
		if !slices.Equal(got, want) {
			t.Errorf("Fetch told %v, want %v", got, want)
		}
	}
	if !slices.Equal(to.Refs(), refs) || from != to && shown(from) != before {
		t.Error("Fetch has moved a branch, or changed what it came from")
	}
}

// A commit has one name wherever it is, whatever its number there, and another one if it is unlike in one thing.
func TestNames(t *testing.T) {
	one, two := repo.New(), repo.New()
	commit(t, one, "a", list("aaa"), "root")
	commit(t, one, "a", list("bbb"), "next")
	commit(t, two, "z", list("zzz"), "other")
	commit(t, two, "y", list("aaa"), "root")
	commit(t, two, "z", list("bbb"), "next")
	commit(t, two, "y", list("bbb"), "next")
	commit(t, two, "x", list("aaa"), "Root")
	commit(t, two, "w", list("aab"), "root")
	a, b := sync.Names(one), sync.Names(two)
	if len(a) != 2 || len(b) != 6 || a[0] != b[1] || a[1] != b[3] {
		t.Errorf("names are %q and %q", a, b)
	}
	if len(slices.Compact(slices.Sorted(slices.Values(b)))) != 6 {
		t.Errorf("two commits have one name: %q", b)
	}
	if !slices.Equal(a, bundle.Names(one)) {
		t.Error("names are not those of chapter 17")
	}
	text, err := bundle.Export(one, []int{0})
	wantTold(t, "Export", err, api.OK)
	needs, err := bundle.Needs(text)
	wantTold(t, "Needs", err, api.OK)
	if !slices.Equal(needs, a[:1]) {
		t.Errorf("a name is %q, and is needed as %q", a[0], needs)
	}
	clear(a)
	if got := sync.Names(one); got[0] != b[1] {
		t.Error("names are kept, and are not the caller's")
	}
	if got := sync.Names(repo.New()); len(got) != 0 {
		t.Errorf("names of nothing are %q", got)
	}
}

// All commits come, on whichever branch they are, or on none; no branch does.
func TestFetch(t *testing.T) {
	from, to := repo.New(), repo.New()
	commit(t, from, "a", list("aaa"), "root")
	commit(t, from, "a", list("aaa", "bbb"), "left")
	branch(t, from, "b", 0)
	commit(t, from, "b", list("aaa", "ccc"), "right")
	join(t, from, "b", 1, list("ddd"), "joined")
	commit(t, from, "c", list("ccc"), "lone")
	if err := from.Drop("c"); err != nil {
		t.Fatal(err)
	}
	commit(t, to, "a", list("zzz"), "own")
	commit(t, to, "c", list("aaa"), "root")
	commit(t, to, "c", list("aaa", "ccc"), "right")
	wantFetch(t, to, from, 1, 3, 2, 4, 5)
	wantShown(t, to, "[{a 0} {c 2}]", "0 [] own", "1 [] root", "2 [1] right", "3 [1] left", "4 [2 3] joined", "5 [] lone")
	for at, want := range [][]api.Triple{list("zzz"), list("aaa"), list("aaa", "ccc"), list("aaa", "bbb"), list("ddd"), list("ccc")} {
		wantGraph(t, to, at, want)
	}
	wantFetch(t, from, to, 5, 0, 2, 1, 3, 4)
	wantFetch(t, to, to, 0, 1, 2, 3, 4, 5)
	if a, b := slices.Sorted(slices.Values(sync.Names(from))), slices.Sorted(slices.Values(sync.Names(to))); !slices.Equal(a, b) {
		t.Errorf("one has %d commits, the other %d, and not the same", len(a), len(b))
	}
}

func TestFetchOfNothing(t *testing.T) {
	wantFetch(t, repo.New(), repo.New())
	to := line(t, "a", "m", 3)
	wantFetch(t, to, repo.New())
	wantFetch(t, repo.New(), to, 0, 1, 2)
	wantShown(t, to, "[{a 2}]", "0 [] m", "1 [0] m", "2 [1] m")
}

// wantNoFetch fails unless Fetch tells just this error, and leaves all as it was.
func wantNoFetch(t testing.TB, to, from *repo.Repo, want api.Errno) {
	t.Helper()
	ahead, before := shown(from), shown(to)
	got, err := sync.Fetch(to, from)
	wantTold(t, "Fetch", err, want)
	if len(got) != 0 || shown(from) != ahead || shown(to) != before {
		t.Errorf("Fetch told %v and %v, and changed something", got, err)
	}
}

func TestFetchFull(t *testing.T) {
	to := line(t, "a", "m", api.MaxCommits-1)
	wantNoFetch(t, to, line(t, "a", "n", 2), api.ErrFull)
	wantNoFetch(t, to, line(t, "a", "n", api.MaxCommits), api.ErrFull)
	wantFetch(t, to, line(t, "a", "n", 1), api.MaxCommits-1)
	wantNoFetch(t, to, line(t, "a", "o", 1), api.ErrFull)
	// What is there already needs no room.
	wantFetch(t, to, line(t, "b", "m", 3), 0, 1, 2)

	to, from := repo.New(), repo.New()
	for i := range 3 {
		commit(t, to, "a", wide(i*api.MaxSet, (i+1)*api.MaxSet), "m")
		if err := to.Drop("a"); err != nil {
			t.Fatal(err)
		}
	}
	commit(t, from, "a", list("aaa"), "small")
	commit(t, from, "b", wide(3*api.MaxSet, 4*api.MaxSet), "large")
	wantNoFetch(t, to, from, api.ErrFull)
	// A number that was given on the way has not been given.
	like := copied(t, to)
	commit(t, to, "c", list("ccc"), "later")
	commit(t, like, "c", list("ccc"), "later")
	if shown(to) != shown(like) {
		t.Errorf("there is\n%s\nwant\n%s", shown(to), shown(like))
	}
}

// The numbers that are told are the caller's.
func TestFetchIsTheCallers(t *testing.T) {
	from, to := line(t, "a", "m", 3), repo.New()
	got, err := sync.Fetch(to, from)
	wantTold(t, "Fetch", err, api.OK)
	clear(got)
	wantFetch(t, to, from, 0, 1, 2)
}
