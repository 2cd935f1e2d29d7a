package journal_test

import (
	"math"
	"slices"
	"strings"
	"testing"

	"strataweb/api"
	"strataweb/journal"
)

// crashed fails unless behind a Crash just the first so many of some deeds are left, all safe, and it goes on from there.
func crashed(t *testing.T, j *journal.Journal, deeds []deed, left int) {
	t.Helper()
	at := ends(t, deeds)
	wantSizes(t, j, at[left], at[left])
	wantRepo(t, j, made(t, deeds[:left]))
	if left < len(deeds) {
		must(t, j, deeds[left])
		wantSizes(t, j, at[left+1], at[left])
		wantRepo(t, j, made(t, deeds[:left+1]))
	}
	wantTold(t, "Sync", j.Sync(), api.OK)
	j.Crash(0)
	wantRepo(t, j, made(t, deeds[:min(left+1, len(deeds))]))
}

// whole tells how many of some records, of which so many bytes end at each place, have all their bytes among the first few.
func whole(ends []int, bytes int) int {
	return len(slices.DeleteFunc(slices.Clone(ends), func(n int) bool { return n > bytes })) - 1
}

// keeps are numbers of bytes that a Crash may keep: each of so many, and a few that are too few or too many.
func keeps(bytes int) []int {
	out := []int{math.MinInt, -1, bytes + 1, math.MaxInt - 1, math.MaxInt}
	for n := range bytes + 1 {
		out = append(out, n)
	}
	return out
}

// A Crash cuts anywhere, of records that are whole, with any of them safe.
func TestCrash(t *testing.T) {
	deeds := some()[:7]
	at := ends(t, deeds)
	for synced := range len(deeds) + 1 {
		for _, keep := range keeps(at[len(deeds)] - at[synced]) {
			j := journal.New()
			must(t, j, deeds[:synced]...)
			wantTold(t, "Sync", j.Sync(), api.OK)
			must(t, j, deeds[synced:]...)
			j.Crash(keep)
			crashed(t, j, deeds, whole(at, at[synced]+min(max(keep, 0), at[len(deeds)]-at[synced])))
			if t.Failed() {
				t.Fatalf("%d were safe, %d bytes more were kept", synced, keep)
			}
		}
	}
}

// The same where it has stopped at any deed: half of a record is there, which is never a whole one.
func TestCrashOfStopped(t *testing.T) {
	deeds := some()
	at := ends(t, deeds)
	for i := range deeds {
		for _, synced := range []int{0, i / 2, i} {
			half := (at[i+1] - at[i]) / 2
			for _, keep := range keeps(at[i] + half - at[synced]) {
				j := journal.New()
				must(t, j, deeds[:synced]...)
				wantTold(t, "Sync", j.Sync(), api.OK)
				must(t, j, deeds[synced:i]...)
				j.Fail(0)
				deeds[i].do(j)
				j.Crash(keep)
				left := whole(at[:i+1], at[synced]+min(max(keep, 0), at[i]-at[synced]))
				wantSizes(t, j, at[left], at[left])
				wantRefs(t, j, made(t, deeds[:left]).Refs()...)
				if keep < 0 || keep > at[i]-at[synced]-2 {
					crashed(t, j, deeds, left)
				}
				if t.Failed() {
					t.Fatalf("stopped at %d, %d were safe, %d bytes more were kept", i, synced, keep)
				}
			}
		}
	}
}

// Where it has stopped at a Sync the records behind the last one are there, and a Crash may keep them.
func TestCrashOfStoppedSync(t *testing.T) {
	deeds := some()
	at := ends(t, deeds)
	for left, end := range at {
		for _, keep := range []int{end, end + 1} {
			j := journal.New()
			must(t, j, deeds...)
			j.Fail(0)
			wantTold(t, "Sync", j.Sync(), api.ErrState)
			j.Crash(keep)
			crashed(t, j, deeds, left)
		}
	}
}

// What Fail said is forgotten, whether it has stopped or not.
func TestCrashForgets(t *testing.T) {
	for _, n := range []int{0, 1, 2, 3, 9} {
		j := journal.New()
		must(t, j, some()[0])
		j.Fail(n)
		j.Crash(math.MaxInt)
		for range 20 {
			wantTold(t, "Sync", j.Sync(), api.OK)
		}
		must(t, j, some()[1:]...)
		wantRepo(t, j, made(t, some()))
	}
	// And what it says behind a Crash holds.
	j := journal.New()
	j.Fail(0)
	j.Crash(0)
	j.Fail(1)
	wantTold(t, "Sync", j.Sync(), api.OK)
	wantTold(t, "Sync", j.Sync(), api.ErrState)
	wantStopped(t, j)
}

// One Crash behind the other: what is left is safe, so the next one leaves it.
func TestCrashAgain(t *testing.T) {
	j := journal.New()
	must(t, j, some()...)
	bytes := j.Bytes()
	j.Crash(bytes - 1)
	left := len(some()) - 1
	for _, keep := range []int{0, -1, math.MinInt, math.MaxInt, 1} {
		j.Crash(keep)
		wantSizes(t, j, ends(t, some())[left], ends(t, some())[left])
		wantRepo(t, j, made(t, some()[:left]))
	}
	crashed(t, j, some(), left)
}

// Terms, names and messages of any bytes that may be come again as they were.
func TestCrashOfStrange(t *testing.T) {
	var all strings.Builder
	for c := byte(32); c < 127; c++ {
		all.WriteByte(c)
	}
	messages := []string{"", " ", "  ", ":", "1:", " m", "m ", "commit a m", "branch a 0", "0"}
	for s := all.String(); s != ""; s = s[min(api.MaxText, len(s)):] {
		messages = append(messages, s[:min(api.MaxText, len(s))])
	}
	var deeds []deed
	for _, m := range messages {
		deeds = append(deeds, deed{name: "commit", message: m})
	}
	for i, s := range strange() {
		deeds = append(deeds, deed{name: "branch", set: s, message: messages[i]}, deed{name: "commit", set: s})
	}
	for _, d := range []deed{{name: "a"}, {name: "b"}, {name: "c"}, {name: "z"}, {isBranch: true, name: "qwertyuiop", at: 12}} {
		deeds = append(deeds, d)
	}
	at := ends(t, deeds)
	for i := range at {
		j := journal.New()
		must(t, j, deeds...)
		j.Crash(at[i])
		wantRepo(t, j, made(t, deeds[:i]))
		wantSizes(t, j, at[i], at[i])
	}
}

// As many branches and commits as there may be, with numbers of two digits and sets of most bytes.
func TestCrashOfMost(t *testing.T) {
	var deeds []deed
	for n := range api.MaxCommits - 3 {
		deeds = append(deeds, deed{name: "a", message: strings.Repeat("m", n%2)})
	}
	for n, name := range eight()[1:4] {
		deeds = append(deeds, deed{name: name, set: wide(n*api.MaxSet, (n+1)*api.MaxSet)})
	}
	for n, name := range eight()[4:] {
		deeds = append(deeds, deed{isBranch: true, name: name, at: api.MaxCommits - 1 - n})
	}
	at := ends(t, deeds)
	j := journal.New()
	must(t, j, deeds...)
	j.Crash(j.Bytes())
	wantRepo(t, j, made(t, deeds))
	for i := len(deeds) - 9; i < len(deeds); i++ {
		for _, keep := range []int{at[i], at[i] + 1, at[i+1] - 1} {
			j = journal.New()
			must(t, j, deeds...)
			j.Crash(keep)
			wantSizes(t, j, at[i], at[i])
			wantRepo(t, j, made(t, deeds[:i]))
		}
	}
}
