package journal_test

import (
	"math"
	"testing"

	"strataweb/api"
	"strataweb/journal"
)

// wantStopped fails unless all calls tell that it has stopped, whatever they are given, and change nothing.
func wantStopped(t *testing.T, j *journal.Journal) {
	t.Helper()
	before, bytes, safe := shown(j.Repo()), j.Bytes(), j.Safe()
	for _, d := range append(some(), deed{name: "A"}, deed{name: "a", set: list("bbb", "aaa")}, deed{name: "a", message: "\n"}, deed{isBranch: true}, deed{isBranch: true, name: "a", at: -1}, deed{isBranch: true, name: "a"}) {
		n, err := d.do(j)
		wantNumber(t, d, n, err, 0, api.ErrState)
	}
	wantTold(t, "Sync", j.Sync(), api.ErrState)
	if shown(j.Repo()) != before {
		t.Error("the Repo has changed though all has stopped")
	}
	wantSizes(t, j, bytes, safe)
}

// It stops at each of some deeds, with those ahead of it safe or not: half of the record is there, of the deed nothing.
func TestStopAtDeeds(t *testing.T) {
	deeds, at := some(), ends(t, some())
	for i, d := range deeds {
		for synced := range i + 1 {
			j := journal.New()
			must(t, j, deeds[:synced]...)
			wantTold(t, "Sync", j.Sync(), api.OK)
			must(t, j, deeds[synced:i]...)
			j.Fail(0)
			n, err := d.do(j)
			wantNumber(t, d, n, err, 0, api.ErrState)
			wantRepo(t, j, made(t, deeds[:i]))
			wantSizes(t, j, at[i]+(at[i+1]-at[i])/2, at[synced])
			wantStopped(t, j)
		}
	}
}

// Records of an odd and of an even number of bytes: half is rounded down.
func TestHalves(t *testing.T) {
	odd, even := 0, 0
	for _, message := range []string{"", "m", "mm", "mmm"} {
		d := deed{name: "a", message: message}
		whole := ends(t, []deed{d})[1]
		j := journal.New()
		j.Fail(0)
		d.do(j)
		wantSizes(t, j, whole/2, 0)
		odd += whole % 2
		even += 1 - whole%2
	}
	if odd == 0 || even == 0 {
		t.Errorf("%d records of an odd number, %d of an even one: both were to be tried", odd, even)
	}
}

// At a Sync it stops without a change: what was not safe is not.
func TestStopAtSync(t *testing.T) {
	deeds, at := some(), ends(t, some())
	for i := range len(deeds) + 1 {
		for synced := range i + 1 {
			j := journal.New()
			must(t, j, deeds[:synced]...)
			wantTold(t, "Sync", j.Sync(), api.OK)
			must(t, j, deeds[synced:i]...)
			j.Fail(0)
			wantTold(t, "Sync", j.Sync(), api.ErrState)
			wantRepo(t, j, made(t, deeds[:i]))
			wantSizes(t, j, at[i], at[synced])
			wantStopped(t, j)
		}
	}
}

// wantSteps fails unless just so many steps are taken: a Sync, and a deed, by turns, with one that is refused between, which is none.
func wantSteps(t *testing.T, j *journal.Journal, want int) {
	t.Helper()
	for step := range 2 * len(some()) {
		n, err := j.Commit("A", nil, "")
		wantNumber(t, "Commit", n, err, 0, api.ErrSyntax)
		wantTold(t, "Branch", j.Branch("a", -1), api.ErrRange)
		if step%2 == 0 {
			err = j.Sync()
		} else {
			_, err = some()[step/2].do(j)
		}
		if step == want {
			wantTold(t, step, err, api.ErrState)
			wantStopped(t, j)
			return
		}
		wantTold(t, step, err, api.OK)
	}
}

// So many steps are taken, and the next one is not.
func TestSteps(t *testing.T) {
	for n := range 2 * len(some()) {
		j := journal.New()
		j.Fail(n)
		wantSteps(t, j, n)
	}
}

// Below 0, and without a Fail, it never stops; with a great number not in these.
func TestNever(t *testing.T) {
	wantSteps(t, journal.New(), math.MaxInt)
	for _, n := range []int{-1, -2, math.MinInt, math.MinInt + 1, math.MaxInt, 2 * len(some())} {
		j := journal.New()
		j.Fail(n)
		wantSteps(t, j, math.MaxInt)
		wantRepo(t, j, made(t, some()))
	}
}

// A new Fail takes the place of the one ahead, whether it is nearer, farther or never; its steps are counted from there.
func TestFailAnew(t *testing.T) {
	for _, first := range []int{-1, 0, 3, 5, math.MaxInt} {
		for second := range 7 {
			j := journal.New()
			j.Fail(first)
			j.Fail(second)
			wantSteps(t, j, second)
			j = journal.New()
			j.Fail(first)
			for range min(first, 2) {
				wantTold(t, "Sync", j.Sync(), api.OK)
			}
			j.Fail(second)
			wantSteps(t, j, second)
		}
		for _, second := range []int{-1, math.MinInt} {
			j := journal.New()
			j.Fail(first)
			j.Fail(second)
			wantSteps(t, j, math.MaxInt)
		}
	}
}

// What has stopped goes on by a Crash alone, not by another Fail.
func TestFailOfStopped(t *testing.T) {
	for _, n := range []int{-1, 0, 1, math.MinInt, math.MaxInt} {
		j := journal.New()
		j.Fail(0)
		wantTold(t, "Sync", j.Sync(), api.ErrState)
		j.Fail(n)
		wantStopped(t, j)
		j.Crash(0)
		wantSteps(t, j, math.MaxInt)
	}
}
