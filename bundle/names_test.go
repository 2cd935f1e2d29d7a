package bundle_test

import (
	"slices"
	"strconv"
	"testing"

	"strataweb/api"
	"strataweb/bundle"
	"strataweb/repo"
)

// Two commits, of whatever Repos, have one name just if they have one graph, one Message, and parents of the same names.
func TestNames(t *testing.T) {
	w := world{}
	names, numbers := map[int]string{}, map[string]int{}
	for seed := range int64(300) {
		r := woven(seed, int(seed)%40)
		ids, all := w.of(t, r), bundle.Names(r)
		if len(all) != len(ids) {
			t.Fatalf("Names told %d, want %d", len(all), len(ids))
		}
		for i, name := range all {
			if id, ok := numbers[name]; ok && id != ids[i] {
				t.Fatalf("two commits have the name %q", name)
			}
			if have, ok := names[ids[i]]; ok && have != name {
				t.Fatalf("one commit has the names %q and %q", have, name)
			}
			names[ids[i]], numbers[name] = name, ids[i]
		}
	}
	if len(names) < 1000 {
		t.Errorf("just %d commits were held against each other", len(names))
	}
}

// Commits that are unlike in one thing alone, some of them far back, all in one Repo.
func TestNamesUnlikeInOne(t *testing.T) {
	r := repo.New()
	for i, c := range []struct {
		set     []api.Triple
		message string
	}{
		{nil, ""}, {nil, "m"}, {nil, "m "}, {list("aaa"), ""}, {list("aab"), ""}, {list("aaa", "aab"), ""},
		{some()[2:3], ""}, {some()[3:4], ""}, {some()[4:], ""},
	} {
		commit(t, r, "a", c.set, c.message)
		// Alike from here on.
		commit(t, r, "a", list("bbb"), "b")
		at := commit(t, r, "a", list("bbb"), "b")
		if at != 3*i+2 {
			t.Fatalf("commit %d came where %d should be", at, 3*i+2)
		}
		if err := r.Drop("a"); err != nil {
			t.Fatal(err)
		}
	}
	// Parents in either order, or of one alone.
	for i, parents := range [][2]int{{0, 3}, {3, 0}, {0, 6}, {3, 6}, {6, 3}} {
		branch(t, r, "a", parents[0])
		if at := join(t, r, "a", parents[1], list("ccc"), "c"); at != 27+i {
			t.Fatalf("commit %d came where %d should be", at, 27+i)
		}
	}
	branch(t, r, "a", 0)
	commit(t, r, "a", list("ccc"), "c")
	names := bundle.Names(r)
	if len(names) != 33 || len(slices.Compact(slices.Sorted(slices.Values(names)))) != 33 {
		t.Errorf("%d commits have fewer names", len(names))
	}
}

// Which numbers commits have does not matter, nor which others are there, nor by which ways they came.
func TestNamesByOtherNumbers(t *testing.T) {
	one, two := repo.New(), repo.New()
	commit(t, one, "a", list("aaa"), "root")
	commit(t, one, "a", list("bbb"), "left")
	branch(t, one, "b", 0)
	commit(t, one, "b", list("ccc"), "right")
	join(t, one, "a", 2, list("ddd"), "joined")

	commit(t, two, "z", list("zzz"), "other")
	commit(t, two, "y", list("aaa"), "root")
	branch(t, two, "x", 1)
	commit(t, two, "x", list("ccc"), "right")
	commit(t, two, "z", list("bbb"), "left")
	commit(t, two, "y", list("bbb"), "left")
	join(t, two, "y", 2, list("ddd"), "joined")
	a, b := bundle.Names(one), bundle.Names(two)
	if want := []string{b[1], b[4], b[2], b[5]}; !slices.Equal(a, want) {
		t.Errorf("names are %q, want %q", a, want)
	}
	if b[3] == b[4] || b[0] == b[1] {
		t.Error("two commits have one name")
	}
}

// Where each comes of the two ahead, there are more ways back than can be gone; names are no longer for that.
func TestNamesOfManyWays(t *testing.T) {
	r := repo.New()
	commit(t, r, "a", nil, "0")
	commit(t, r, "a", list("aaa"), "1")
	for i := 2; i < api.MaxCommits; i++ {
		join(t, r, "a", i-2, list("aaa", "bbb")[i%2:], strconv.Itoa(i))
	}
	for i, name := range bundle.Names(r) {
		if len(name) > 5000 {
			t.Errorf("the name of %d has %d bytes", i, len(name))
		}
	}
	text := exported(t, r, 30)
	wantNeeds(t, text, slices.Sorted(slices.Values(bundle.Names(r)[29:31]))...)
	wantNoImport(t, repo.New(), text, api.ErrNone)
	to := repo.New()
	if _, err := bundle.Import(to, exported(t, r)); err != nil || !slices.Equal(bundle.Names(to), bundle.Names(r)) {
		t.Errorf("Import: %v, and names are others there", err)
	}
}

// Large graphs that come and go are each of many bytes, and their Layers few objects; names are no longer than these.
func TestNamesOfLargeGraphs(t *testing.T) {
	r := repo.New()
	for i := range api.MaxCommits {
		commit(t, r, "a", wide(0, api.MaxSet*(i%2)), "m")
	}
	names := bundle.Names(r)
	for i, name := range names {
		if len(name) > api.MaxBytes {
			t.Errorf("the name of %d has %d bytes", i, len(name))
		}
	}
	to := repo.New()
	if _, err := bundle.Import(to, exported(t, r)); err != nil || !slices.Equal(bundle.Names(to), names) {
		t.Errorf("Import: %v, and names are others there", err)
	}
}

// Names are the caller's, and tell nothing of branches.
func TestNamesAreTheCallers(t *testing.T) {
	r := woven(5, 20)
	one, two := bundle.Names(r), bundle.Names(r)
	clear(one)
	for _, ref := range r.Refs() {
		if err := r.Drop(ref.Name); err != nil {
			t.Fatal(err)
		}
	}
	if got := bundle.Names(r); !slices.Equal(got, two) || len(got) == 0 {
		t.Errorf("names are %q, then %q", two, got)
	}
	if got := bundle.Names(repo.New()); len(got) != 0 {
		t.Errorf("names of nothing are %q", got)
	}
}
