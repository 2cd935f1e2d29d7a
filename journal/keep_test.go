package journal_test

import (
	"math"
	"slices"
	"strings"
	"testing"
	"unsafe"

	"strataweb/api"
	"strataweb/journal"
	"strataweb/repo"
)

func TestNew(t *testing.T) {
	j := journal.New()
	wantSizes(t, j, 0, 0)
	wantRepo(t, j, repo.New())
	wantTold(t, "Sync", j.Sync(), api.OK)
	wantSizes(t, j, 0, 0)
	j.Crash(math.MaxInt)
	wantSizes(t, j, 0, 0)
	wantRepo(t, j, repo.New())
}

// Two that are made have nothing in common.
func TestNewIsItsOwn(t *testing.T) {
	one, two := journal.New(), journal.New()
	one.Fail(1)
	must(t, one, some()[0])
	wantTold(t, "Sync", one.Sync(), api.ErrState)
	must(t, two, some()...)
	wantRefs(t, one, api.Ref{Name: "a"})
	wantSizes(t, one, ends(t, some())[1], 0)
}

// Commit and Branch tell what a Repo tells, and leave what it leaves; each without an error has a record, and is not safe by itself.
func TestDone(t *testing.T) {
	j, r := journal.New(), repo.New()
	for i, d := range some() {
		before := j.Bytes()
		got, err := d.do(j)
		want, told := d.do(r)
		wantTold(t, i, told, api.OK)
		wantNumber(t, i, got, err, want, api.OK)
		wantRepo(t, j, r)
		if j.Bytes() < before+2 {
			t.Errorf("%d bytes came to %d, want two at least", j.Bytes()-before, before)
		}
		wantSizes(t, j, j.Bytes(), 0)
	}
	wantRefs(t, j, api.Ref{Name: "a", Commit: 1}, api.Ref{Name: "b", Commit: 4}, api.Ref{Name: "c", Commit: 2}, api.Ref{Name: "d", Commit: 0}, api.Ref{Name: "e", Commit: 4}, api.Ref{Name: "zzzzzzzzzz", Commit: 2})
}

// Sync makes safe what is there; what comes behind it is not.
func TestSync(t *testing.T) {
	j := journal.New()
	at := ends(t, some())
	for i, d := range some() {
		must(t, j, d)
		wantSizes(t, j, at[i+1], at[i])
		for range 2 {
			wantTold(t, i, j.Sync(), api.OK)
			wantSizes(t, j, at[i+1], at[i+1])
		}
	}
	wantRepo(t, j, made(t, some()))
}

// wantKept fails unless a deed is refused with just this error, on a Journal and on its Repo's like, and nothing has changed, so that no record is there and no step was counted.
func wantKept(t *testing.T, j *journal.Journal, d deed, want api.Errno) {
	t.Helper()
	before, bytes, safe := shown(j.Repo()), j.Bytes(), j.Safe()
	j.Fail(0)
	n, err := d.do(j)
	wantNumber(t, d, n, err, 0, want)
	if shown(j.Repo()) != before {
		t.Errorf("%v told %v, and changed the Repo", d, err)
	}
	wantSizes(t, j, bytes, safe)
	j.Fail(-1)
}

// Of what has an error nothing is kept, though the next step be the one at which it stops.
func TestRefused(t *testing.T) {
	j := journal.New()
	must(t, j, deed{name: "a", set: list("aaa"), message: "m"})
	for _, name := range badNames() {
		wantKept(t, j, deed{name: name}, api.ErrSyntax)
		wantKept(t, j, deed{isBranch: true, name: name}, api.ErrSyntax)
		wantKept(t, j, deed{isBranch: true, name: name, at: 1}, api.ErrSyntax)
	}
	wantKept(t, j, deed{name: "a", set: list("bbb", "aaa")}, api.ErrState)
	wantKept(t, j, deed{name: "a", set: list("aaa", "aaa")}, api.ErrState)
	wantKept(t, j, deed{name: "a", set: make([]api.Triple, 1)}, api.ErrRange)
	wantKept(t, j, deed{name: "a", set: wide(0, api.MaxSet+1)}, api.ErrFull)
	wantKept(t, j, deed{name: "a", message: "\n"}, api.ErrSyntax)
	wantKept(t, j, deed{name: "a", message: strings.Repeat("m", api.MaxText+1)}, api.ErrFull)
	for _, at := range []int{-1, 1, math.MinInt, math.MaxInt} {
		wantKept(t, j, deed{isBranch: true, name: "b", at: at}, api.ErrRange)
		wantKept(t, j, deed{isBranch: true, name: "a", at: at}, api.ErrRange)
	}
	wantKept(t, j, deed{isBranch: true, name: "a"}, api.ErrClash)
	must(t, j, deed{isBranch: true, name: "b"}, deed{name: "a", set: list("bbb"), message: "m"})
	wantRefs(t, j, api.Ref{Name: "a", Commit: 1}, api.Ref{Name: "b"})
}

// Where there is no room: for branches, for commits, for bytes.
func TestFull(t *testing.T) {
	j := journal.New()
	for _, name := range eight() {
		must(t, j, deed{name: name})
	}
	wantKept(t, j, deed{name: "i"}, api.ErrFull)
	wantKept(t, j, deed{isBranch: true, name: "i"}, api.ErrFull)
	for range api.MaxCommits - 1 {
		must(t, j, deed{name: "a"})
	}
	wantKept(t, j, deed{name: "a"}, api.ErrFull)
	// One that is there already needs no room, and has a record.
	before := j.Bytes()
	must(t, j, deed{name: "b"})
	if j.Bytes() < before+2 {
		t.Error("what is there already has no record")
	}
	j = journal.New()
	for i, name := range eight()[:3] {
		must(t, j, deed{name: name, set: wide(i*api.MaxSet, (i+1)*api.MaxSet)})
	}
	wantKept(t, j, deed{name: "d", set: wide(3*api.MaxSet, 4*api.MaxSet)}, api.ErrFull)
	before = j.Bytes()
	r := shown(j.Repo())
	wantTold(t, "Sync", j.Sync(), api.OK)
	j.Crash(0)
	wantSizes(t, j, before, before)
	if shown(j.Repo()) != r {
		t.Error("long sets did not come again")
	}
	wantKept(t, j, deed{name: "d", set: wide(3*api.MaxSet, 4*api.MaxSet)}, api.ErrFull)
}

// What is handed in is neither written nor kept: all comes again from the bytes, whatever has become of it.
func TestKeepsNoMemory(t *testing.T) {
	j := journal.New()
	memory := []byte("mainnoteside")
	room := append(list("aaa", "bbb"), list("ccc")...)
	name, message, side := unsafe.String(&memory[0], 4), unsafe.String(&memory[4], 4), unsafe.String(&memory[8], 4)
	n, err := j.Commit(name, room[:2], message)
	wantNumber(t, "Commit", n, err, 0, api.OK)
	wantTold(t, "Branch", j.Branch(side, 0), api.OK)
	if !slices.Equal(room, list("aaa", "bbb", "ccc")) {
		t.Errorf("what was handed in was written: %v", room)
	}
	clear(room)
	copy(memory, "xxxxyyyyzzzz")
	want := made(t, []deed{{name: "main", set: list("aaa", "bbb"), message: "note"}, {isBranch: true, name: "side"}})
	wantRepo(t, j, want)
	j.Crash(j.Bytes())
	wantRepo(t, j, want)
}

// What comes of looking at the Repo is the caller's.
func TestLookedAt(t *testing.T) {
	j := journal.New()
	must(t, j, some()...)
	clear(j.Repo().Refs())
	for i, c := range j.Repo().Commits() {
		clear(c.Parents)
		g, _ := j.Repo().Graph(i)
		clear(g)
	}
	wantRepo(t, j, made(t, some()))
	j.Crash(j.Bytes())
	wantRepo(t, j, made(t, some()))
}

// What is done with the Repo by itself is not kept.
func TestRepoByItself(t *testing.T) {
	j := journal.New()
	must(t, j, deed{name: "a", set: list("aaa")})
	bytes := j.Bytes()
	must(t, j.Repo(), deed{name: "a", set: list("bbb")}, deed{name: "b"})
	wantSizes(t, j, bytes, 0)
	wantTold(t, "Sync", j.Sync(), api.OK)
	j.Crash(0)
	wantRepo(t, j, made(t, []deed{{name: "a", set: list("aaa")}}))
	// What then cannot be done again is left out, and nothing breaks.
	must(t, j.Repo(), deed{name: "b", set: list("bbb")})
	must(t, j, deed{isBranch: true, name: "c", at: 1}, deed{name: "d", set: list("ddd")})
	j.Crash(math.MaxInt)
	wantRepo(t, j, made(t, []deed{{name: "a", set: list("aaa")}, {name: "d", set: list("ddd")}}))
}
