package bundle_test

import (
	"math"
	"slices"
	"strings"
	"testing"
	"unsafe"

	"strataweb/api"
	"strataweb/bundle"
	"strataweb/repo"
)

// forked makes a Repo with a root, two that came of it, on a and b, one that came of both, on a, and one that came of nothing, on c.
func forked(t testing.TB) *repo.Repo {
	t.Helper()
	r := repo.New()
	commit(t, r, "a", list("aaa"), "root")
	branch(t, r, "b", 0)
	commit(t, r, "a", list("aaa", "bbb"), "left")
	commit(t, r, "b", list("aaa", "ccc"), "right")
	join(t, r, "a", 2, list("aaa", "bbb", "ccc"), "joined")
	commit(t, r, "c", list("zzz"), "other")
	return r
}

// What is carried, by hand.
func TestExport(t *testing.T) {
	from := forked(t)
	names := bundle.Names(from)
	root := repo.New()
	commit(t, root, "x", list("zzz"), "stands alone")
	commit(t, root, "y", list("aaa"), "root")
	for _, c := range []struct {
		have  []int
		needs []int
		want  []int
		ids   []string
	}{
		// The ones that come are those that the root's Repo has not got, numbered as they come.
		{nil, nil, []int{1, 2, 3, 4, 5}, nil},
		{[]int{0}, []int{0}, []int{2, 3, 4, 5}, nil},
		{[]int{0, 4}, []int{0}, []int{2, 3, 4}, nil},
		{[]int{4, 0, 4, 0, 0}, []int{0}, []int{2, 3, 4}, nil},
		{[]int{4}, nil, []int{1, 2, 3, 4}, nil},
		{[]int{3}, nil, []int{2}, nil},
		{[]int{3, 4}, nil, nil, nil},
		{[]int{0, 1, 2, 3, 4}, nil, nil, nil},
	} {
		to := repo.New()
		commit(t, to, "x", list("zzz"), "stands alone")
		commit(t, to, "y", list("aaa"), "root")
		text := exported(t, from, c.have...)
		var needs []string
		for _, at := range c.needs {
			needs = append(needs, names[at])
		}
		wantNeeds(t, text, needs...)
		wantImport(t, to, text, c.want...)
		wantImport(t, to, text, c.want...)
		wantWhole(t, to)
	}
	// One of the two that came of the root is left out: both it and the root are needed; then what came of nothing alone.
	for _, have := range [][]int{{1}, {1, 0}, {1, 4}} {
		text := exported(t, from, have...)
		wantNeeds(t, text, slices.Sorted(slices.Values(names[:2]))...)
		wantNoImport(t, root, text, api.ErrNone)
	}
	wantNeeds(t, exported(t, from, 1, 2), slices.Sorted(slices.Values(names[1:3]))...)
}

// What is there is as it was, with its branches; what comes has its graph, Message and parents.
func TestImport(t *testing.T) {
	from, to := forked(t), repo.New()
	commit(t, to, "b", list("zzz"), "first")
	commit(t, to, "d", list("aaa"), "root")
	commit(t, to, "d", list("aaa", "ccc"), "right")
	wantImport(t, to, exported(t, from), 1, 3, 2, 4, 5)
	want := strings.Join([]string{
		`[{b 0} {d 2}]`,
		`0 [] 1 "first" [{{1 z } {1 z } {1 z }}] <nil>`,
		`1 [] 2 "root" [{{1 a } {1 a } {1 a }}] <nil>`,
		`2 [1] 3 "right" [{{1 a } {1 a } {1 a }} {{1 c } {1 c } {1 c }}] <nil>`,
		`3 [1] 4 "left" [{{1 a } {1 a } {1 a }} {{1 b } {1 b } {1 b }}] <nil>`,
		`4 [3 2] 3 "joined" [{{1 a } {1 a } {1 a }} {{1 b } {1 b } {1 b }} {{1 c } {1 c } {1 c }}] <nil>`,
		`5 [] 1 "other" [{{1 z } {1 z } {1 z }}] <nil>`,
		`1 000101017a01017a01017a0000`,
		`2 0001010161010161010161` + `0000`,
		`3 0001010163010163010163` + `0000`,
		`4 0001010162010162010162` + `0000`,
		``,
	}, "\n")
	if got := shown(to); got != want {
		t.Errorf("there is\n%s\nwant\n%s", got, want)
	}
	// What is committed likewise is what has come.
	if at := commit(t, to, "e", list("zzz"), "other"); at != 5 {
		t.Errorf("a commit likewise is %d, want 5", at)
	}
	branch(t, to, "e", 3)
	if at := join(t, to, "e", 2, list("aaa", "bbb", "ccc"), "joined"); at != 4 {
		t.Errorf("a Join likewise is %d, want 4", at)
	}
}

// ancestors are those of some commits, themselves too: by going from each to its parents, whatever the way.
func ancestors(l []api.Commit, of []int) map[int]bool {
	out := map[int]bool{}
	for len(of) > 0 {
		at := of[0]
		of = of[1:]
		if !out[at] {
			out[at] = true
			of = append(slices.Clone(of), l[at].Parents...)
		}
	}
	return out
}

// carried are, by the chapter's words, the commits that come over and the ones that these need.
func carried(r *repo.Repo, have []int) (come, needs []int) {
	l := r.Commits()
	left := ancestors(l, have)
	for i, c := range l {
		if left[i] {
			continue
		}
		come = append(come, i)
		for _, p := range c.Parents {
			if left[p] && !slices.Contains(needs, p) {
				needs = append(needs, p)
			}
		}
	}
	return come, needs
}

// wantCarried fails unless what comes from one Repo to the other is just what the chapter says, where there is room for it.
func wantCarried(t *testing.T, w world, from, to *repo.Repo, have []int) {
	t.Helper()
	come, needs := carried(from, have)
	ids, there, names := w.of(t, from), w.of(t, to), bundle.Names(from)
	var wantNames []string
	told := api.OK
	for _, at := range needs {
		wantNames = append(wantNames, names[at])
		if !slices.Contains(there, ids[at]) {
			told = api.ErrNone
		}
	}
	slices.Sort(wantNames)
	text := exported(t, from, have...)
	wantNeeds(t, text, wantNames...)
	if told != api.OK {
		wantNoImport(t, to, text, told)
		return
	}
	var want []int
	after := slices.Clone(there)
	for _, at := range come {
		number := slices.Index(after, ids[at])
		if number < 0 {
			number = len(after)
			after = append(after, ids[at])
		}
		want = append(want, number)
	}
	refs, before := to.Refs(), shown(to)
	wantImport(t, to, text, want...)
	if got := w.of(t, to); !slices.Equal(got, after) {
		t.Errorf("there is %v, want %v", got, after)
	}
	if !slices.Equal(to.Refs(), refs) || len(after) == len(there) && shown(to) != before {
		t.Errorf("there is %s, and was %s", shown(to), before)
	}
	for i := range there {
		if !strings.Contains(before, commitShown(to, i)) {
			t.Errorf("commit %d has become %s", i, commitShown(to, i))
		}
	}
	wantWhole(t, to)
}

func TestCarried(t *testing.T) {
	w := world{}
	for seed := range int64(40) {
		for other := range int64(12) {
			from := woven(seed, 1+int(seed)%17)
			size := len(from.Commits())
			haves := [][]int{nil}
			if size > 0 {
				haves = append(haves, []int{int(other) % size}, []int{0, size - 1}, []int{size / 2, int(other+5) % size, size / 2})
			}
			for _, have := range haves {
				wantCarried(t, w, from, woven(100+other, int(other)), have)
				// To one that has gone on from the same beginning.
				wantCarried(t, w, from, woven(seed, int(other)), have)
			}
		}
		if t.Failed() {
			return
		}
	}
}

// To itself nothing comes: each has the number that it has.
func TestImportToItself(t *testing.T) {
	r := woven(9, 40)
	before := shown(r)
	var all []int
	for i := range r.Commits() {
		all = append(all, i)
	}
	wantImport(t, r, exported(t, r), all...)
	wantImport(t, r, exported(t, r, all...))
	if shown(r) != before || len(all) < 10 {
		t.Errorf("it has changed, or has but %d commits", len(all))
	}
}

// However it is carried, at once or piece by piece, straight or by way of another one, it is the same.
func TestCarriedElsewhere(t *testing.T) {
	for seed := range int64(30) {
		from := woven(seed, 30)
		whole, pieces, by := repo.New(), repo.New(), repo.New()
		if _, err := bundle.Import(whole, exported(t, from)); err != nil {
			t.Fatal(err)
		}
		// What comes at once, and what comes while there is more and more of it.
		var have []int
		for steps := range 31 {
			part := woven(seed, steps)
			if _, err := bundle.Import(pieces, exported(t, part, have...)); err != nil {
				t.Fatalf("seed %d behind %d steps: %v", seed, steps, err)
			}
			for at := len(have); at < len(part.Commits()); at++ {
				have = append(have, at)
			}
		}
		if _, err := bundle.Import(by, exported(t, pieces)); err != nil {
			t.Fatal(err)
		}
		want := slices.Sorted(slices.Values(bundle.Names(from)))
		for _, to := range []*repo.Repo{whole, pieces, by} {
			if got := slices.Sorted(slices.Values(bundle.Names(to))); !slices.Equal(got, want) {
				t.Fatalf("seed %d: %d commits have come, not the same as the %d there were", seed, len(got), len(want))
			}
			wantWhole(t, to)
		}
		if exported(t, whole) != exported(t, from) {
			t.Errorf("seed %d: Export of what has come is another text", seed)
		}
	}
}

func TestExportRange(t *testing.T) {
	for _, r := range []*repo.Repo{repo.New(), forked(t), woven(9, 40)} {
		size := len(r.Commits())
		for _, at := range []int{-1, -2, -size - 1, math.MinInt, size, size + 1, api.MaxCommits, 1000, 1 << 32, math.MaxInt} {
			for _, have := range [][]int{{at}, {at, at}, {0, at}, {at, 0}, {size - 1, 0, at}} {
				got, err := bundle.Export(r, have)
				wantTold(t, have, err, api.ErrRange)
				if got != "" {
					t.Errorf("Export told %q, and %v", got, err)
				}
			}
		}
	}
}

// A list that is handed in stays, what lies behind its length is not read, and it may be long.
func TestExportLeavesTheList(t *testing.T) {
	r := forked(t)
	have := []int{2, 0, 2, 77, -1}
	if exported(t, r, have[:3]...) != exported(t, r, 2) || !slices.Equal(have, []int{2, 0, 2, 77, -1}) {
		t.Errorf("the list is %v, or was not read as it was", have)
	}
	if exported(t, r, slices.Repeat([]int{2, 0, 1}, 1_000_000)...) != exported(t, r, 1, 2) {
		t.Error("a long list is not what it says")
	}
	before := shown(r)
	exported(t, r)
	if shown(r) != before {
		t.Error("Export has changed what it tells of")
	}
}

// What is told is the caller's, and what was handed in is not kept.
func TestCarriedKeepsNoMemory(t *testing.T) {
	from, to := forked(t), repo.New()
	commit(t, to, "x", list("aaa"), "root")
	bytes := []byte(exported(t, from, 0))
	text := unsafe.String(&bytes[0], len(bytes))
	at, err := bundle.Import(to, text)
	wantTold(t, "Import", err, api.OK)
	needs, err := bundle.Needs(text)
	wantTold(t, "Needs", err, api.OK)
	before, name := shown(to), strings.Clone(needs[0])
	clear(bytes)
	if shown(to) != before || needs[0] != name || name != bundle.Names(from)[0] {
		t.Error("the text is kept: what came of it changes with it")
	}
	clear(at)
	wantImport(t, to, exported(t, from, 0), 1, 2, 3, 4)
	needs[0] = ""
	wantNeeds(t, exported(t, from, 0), name)
}

// All branches that may be are no hindrance: none comes.
func TestImportMostNames(t *testing.T) {
	to := repo.New()
	for _, name := range strings.Split("abcdefgh", "") {
		commit(t, to, name, list(name+"yy"), "m")
	}
	wantImport(t, to, exported(t, forked(t)), 8, 9, 10, 11, 12)
	if got := len(to.Refs()); got != api.MaxNames {
		t.Errorf("there are %d branches", got)
	}
}

// line makes a Repo of so many commits, each of which comes of the one ahead of it.
func line(t testing.TB, message string, size int) *repo.Repo {
	t.Helper()
	r := repo.New()
	for i := range size {
		commit(t, r, "a", list("aaa", "bbb")[i%2:], message)
	}
	return r
}

// Just as many as there is room for, and one more; those that are there already need none.
func TestImportMostCommits(t *testing.T) {
	for _, size := range []int{1, 20, api.MaxCommits - 1, api.MaxCommits} {
		room := api.MaxCommits - size
		to := line(t, "m", size)
		if room < api.MaxCommits-1 {
			wantNoImport(t, to, exported(t, line(t, "n", room+1)), api.ErrFull)
			wantNoImport(t, to, exported(t, line(t, "n", api.MaxCommits)), api.ErrFull)
		}
		text := exported(t, line(t, "n", room))
		at, err := bundle.Import(to, text)
		wantTold(t, size, err, api.OK)
		if len(at) != room || len(to.Commits()) != api.MaxCommits {
			t.Errorf("%v came, and there are %d commits", at, len(to.Commits()))
		}
		wantImport(t, to, text, at...)
		wantNoImport(t, to, exported(t, line(t, "o", 1)), api.ErrFull)
		if room == 0 {
			continue
		}
		// All but one are there.
		last := line(t, "m", size)
		commit(t, last, "a", list("zzz"), "last")
		wantNoImport(t, to, exported(t, last), api.ErrFull)
		wantNoImport(t, to, exported(t, last, size-1), api.ErrFull)
	}
	from, to := line(t, "m", api.MaxCommits), repo.New()
	at, err := bundle.Import(to, exported(t, from))
	if err != nil || len(at) != api.MaxCommits {
		t.Errorf("Import told %v, %v", at, err)
	}
}

// What has no room for its objects does not come, nor what stands ahead of it, and later ones have the numbers that they would have had.
func TestImportMostBytes(t *testing.T) {
	from := repo.New()
	commit(t, from, "a", list("aaa"), "small")
	commit(t, from, "b", wide(0, api.MaxSet), "large")
	for _, all := range []int{3, 4} {
		to, like := repo.New(), repo.New()
		for _, r := range []*repo.Repo{to, like} {
			for i := 1; i <= 3; i++ {
				commit(t, r, "c", wide(i*api.MaxSet, (i+1)*api.MaxSet)[:api.MaxSet*(all-2)/2], "m")
				r.Drop("c")
			}
		}
		text := exported(t, from)
		if all == 3 {
			wantImport(t, to, text, 3, 4)
			continue
		}
		wantNoImport(t, to, text, api.ErrFull)
		wantNoImport(t, to, exported(t, from, 0), api.ErrFull)
		for _, r := range []*repo.Repo{to, like} {
			commit(t, r, "d", list("ddd"), "later")
			branch(t, r, "e", 1)
		}
		if shown(to) != shown(like) {
			t.Errorf("there is\n%s\nwant\n%s", shown(to), shown(like))
		}
		wantImport(t, to, exported(t, from, 1), 4)
	}
}

// Of several faults the first is told: no text of an Export, a need that is not there, no room.
func TestImportTellsFirst(t *testing.T) {
	full, other := line(t, "m", api.MaxCommits), line(t, "n", 3)
	whole, rest := exported(t, other), exported(t, other, 0)
	wantNoImport(t, full, whole, api.ErrFull)
	wantNoImport(t, full, rest, api.ErrNone)
	wantNoImport(t, full, whole[1:], api.ErrSyntax)
	wantNoImport(t, full, rest+"x", api.ErrSyntax)
	wantNoImport(t, repo.New(), rest, api.ErrNone)
	wantNoImport(t, repo.New(), rest+"x", api.ErrSyntax)
	// Needs alone are of no use to it: one that is there, one that is not.
	r := forked(t)
	to := repo.New()
	commit(t, to, "a", list("aaa"), "root")
	commit(t, to, "a", list("aaa", "bbb"), "left")
	wantNoImport(t, to, exported(t, r, 1, 2), api.ErrNone)
	wantImport(t, to, exported(t, r, 1), 2, 3, 4)
	wantImport(t, to, exported(t, r, 1, 2), 3, 4)
}
