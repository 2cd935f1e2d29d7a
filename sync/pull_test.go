package sync_test

import (
	"slices"
	"strings"
	"testing"
	"unsafe"

	"strataweb/api"
	"strataweb/repo"
	"strataweb/sync"
)

// apart makes two Repos whose branch went apart behind a root, which has the first of these graphs; the one has the second, the other the third.
func apart(t testing.TB, root, own, other []api.Triple) (to, from *repo.Repo) {
	t.Helper()
	to = repo.New()
	commit(t, to, "main", root, "root")
	from = copied(t, to)
	commit(t, to, "main", own, "own")
	commit(t, from, "main", other, "other")
	return to, from
}

// As Push: a new branch, one that goes on, one that is there. No message is asked for: any will do.
func TestPullAsPush(t *testing.T) {
	for _, message := range []string{"", "m", "\n", strings.Repeat("m", api.MaxText+1), strings.Repeat("\n", 1<<16)} {
		from := line(t, "main", "m", 3)
		commit(t, from, "side", list("sss"), "side")
		to := repo.New()
		commit(t, to, "side", list("zzz"), "own")
		wantPull(t, to, from, "main", message, 3)
		wantShown(t, to, "[{main 3} {side 0}]", "0 [] own", "1 [] m", "2 [1] m", "3 [2] m", "4 [] side")
		for at := 1; at <= 3; at++ {
			branch(t, to, "main", at)
			wantPull(t, to, from, "main", message, 3)
		}
		wantShown(t, to, "[{main 3} {side 0}]", "0 [] own", "1 [] m", "2 [1] m", "3 [2] m", "4 [] side")
	}
}

// A branch that is ahead stays, whatever the message.
func TestPullAhead(t *testing.T) {
	for _, message := range []string{"", "\n", strings.Repeat("m", api.MaxText+1)} {
		to := line(t, "main", "m", 4)
		for size := 1; size < 4; size++ {
			before := shown(to)
			wantPull(t, to, line(t, "main", "m", size), "main", message, 3)
			if shown(to) != before {
				t.Errorf("there is\n%s\nwas\n%s", shown(to), before)
			}
		}
	}
}

// All else that from has comes then, too, as in each other case.
func TestPullAheadFetches(t *testing.T) {
	to, from := line(t, "main", "m", 2), line(t, "main", "m", 1)
	commit(t, from, "side", list("sss"), "side")
	wantPull(t, to, from, "main", "p", 1)
	wantShown(t, to, "[{main 1}]", "0 [] m", "1 [0] m", "2 [] side")
}

// A branch that is ahead by the second parent of a Join is ahead, too.
func TestPullAheadByEitherParent(t *testing.T) {
	to, from := apart(t, list("aaa"), list("aaa", "bbb"), list("aaa", "ccc"))
	wantPull(t, to, from, "main", "pulled", 3)
	before := shown(to)
	wantPull(t, to, from, "main", "again", 3)
	if shown(to) != before {
		t.Errorf("there is\n%s\nwas\n%s", shown(to), before)
	}
	wantPull(t, from, to, "main", "back", 3)
	wantShown(t, from, "[{main 3}]", "0 [] root", "1 [0] other", "2 [0] own", "3 [2 1] pulled")
}

// Both went apart: they are one again, with both as parents, to's first, and all else that from has.
func TestPullJoins(t *testing.T) {
	to, from := apart(t, list("aaa", "bbb"), list("aaa", "bbb", "ccc"), list("bbb", "ddd"))
	commit(t, from, "side", list("sss"), "side")
	commit(t, to, "zzz", list("zzz"), "zzz")
	wantPull(t, to, from, "main", "pulled", 5)
	wantShown(t, to, "[{main 5} {zzz 2}]", "0 [] root", "1 [0] own", "2 [] zzz", "3 [0] other", "4 [] side", "5 [1 3] pulled")
	wantGraph(t, to, 5, list("bbb", "ccc", "ddd"))
	b, err := to.Object(to.Commits()[5].Layer)
	if want := "\x00\x01\x01\x01d\x01\x01d\x01\x01d" + "\x00\x01\x01\x01a\x01\x01a\x01\x01a"; err != nil || b != want {
		t.Errorf("its Layer is %q, %v, want %q", b, err, want)
	}
}

// Either way round the graph is the same.
func TestPullEitherWay(t *testing.T) {
	_, groups := universe()
	full := groups[0] | groups[1] | groups[2]
	for own := range full + 1 {
		for root := range full + 1 {
			other := (own*7 + root*3) % (full + 1)
			a, b := apart(t, picked(root), picked(own), picked(other))
			c, d := copied(t, a), copied(t, b)
			set, clash := merged(root, own, other)
			if clash {
				wantRefused(t, a, b, api.ErrSides, func() (int, error) { return sync.Pull(a, b, "main", "p") })
				wantRefused(t, d, c, api.ErrSides, func() (int, error) { return sync.Pull(d, c, "main", "p") })
				continue
			}
			wantPull(t, a, b, "main", "p", 3)
			wantPull(t, d, c, "main", "p", 3)
			wantGraph(t, a, 3, picked(set))
			wantGraph(t, d, 3, picked(set))
			if got := d.Commits()[3].Parents; !slices.Equal(got, []int{1, 2}) {
				t.Errorf("parents are %v", got)
			}
		}
	}
}

// The same parents, graph and message: it is the commit that is there.
func TestPullAgain(t *testing.T) {
	to, from := apart(t, nil, list("aaa"), list("bbb"))
	wantPull(t, to, from, "main", "p", 3)
	branch(t, to, "main", 1)
	wantPull(t, to, from, "main", "p", 3)
	branch(t, to, "main", 1)
	wantPull(t, to, from, "main", "q", 4)
	wantShown(t, to, "[{main 4}]", "0 [] root", "1 [0] own", "2 [0] other", "3 [1 2] p", "4 [1 2] q")
}

// There and back and there again, by both sides in turn, as often as there is room for: each time the base is the last that both had.
func TestPullThereAndBack(t *testing.T) {
	one := repo.New()
	commit(t, one, "main", nil, "root")
	two := copied(t, one)
	for i := range 10 {
		for _, side := range []*repo.Repo{one, two} {
			at, err := side.Head("main")
			wantTold(t, "Head", err, api.OK)
			set, err := side.Graph(at)
			wantTold(t, at, err, api.OK)
			pair := "ap"
			if side == two {
				pair = "bp"
			}
			set = append(set, span(pair, i, i+1)...)
			slices.SortFunc(set, func(x, y api.Triple) int {
				return strings.Compare(x.S.S+x.O.S, y.S.S+y.O.S)
			})
			commit(t, side, "main", set, "m")
		}
		at, err := sync.Pull(one, two, "main", "p")
		wantTold(t, "there", err, api.OK)
		wantGraph(t, one, at, slices.Concat(span("ap", 0, i+1), span("bp", 0, i+1)))
		at, err = sync.Pull(two, one, "main", "q")
		wantTold(t, "back", err, api.OK)
		wantGraph(t, two, at, slices.Concat(span("ap", 0, i+1), span("bp", 0, i+1)))
		a, b := slices.Sorted(slices.Values(sync.Names(one))), slices.Sorted(slices.Values(sync.Names(two)))
		if !slices.Equal(a, b) || len(a) != 1+3*(i+1) {
			t.Fatalf("one has %d commits, the other %d", len(a), len(b))
		}
	}
}

// What from's Head tells is told ahead of all, and nothing comes.
func TestPullOfNone(t *testing.T) {
	long := strings.Repeat("\n", api.MaxText+1)
	for _, from := range []*repo.Repo{repo.New(), line(t, "main", "m", 3), line(t, "main", "n", api.MaxCommits)} {
		for _, to := range []*repo.Repo{repo.New(), full(t), line(t, "side", "m", 2), line(t, "side", "m", api.MaxCommits)} {
			for _, name := range badNames() {
				wantNoPull(t, to, from, name, long, api.ErrSyntax)
			}
			for _, name := range []string{"side", "a", "x", "abcdefghij"} {
				wantNoPull(t, to, from, name, long, api.ErrNone)
			}
		}
	}
}

// No base: neither came of what the other came of. The branch stays, and commits have come.
func TestPullNoBase(t *testing.T) {
	to, from := line(t, "main", "m", 2), line(t, "main", "n", 3)
	wantRefused(t, to, from, api.ErrState, func() (int, error) { return sync.Pull(to, from, "main", "\n") })
	wantShown(t, to, "[{main 1}]", "0 [] m", "1 [0] m", "2 [] n", "3 [2] n", "4 [3] n")
}

// Two bases: each side joined the two in its own way.
func TestPullTwoBases(t *testing.T) {
	to, from := apart(t, nil, list("aaa"), list("bbb"))
	wantFetch(t, to, from, 0, 2)
	wantFetch(t, from, to, 0, 2, 1)
	join(t, to, "main", 2, list("aaa", "bbb"), "to's")
	join(t, from, "main", 2, list("aaa", "bbb"), "from's")
	for _, message := range []string{"p", "\n"} {
		wantRefused(t, to, from, api.ErrState, func() (int, error) { return sync.Pull(to, from, "main", message) })
	}
	wantShown(t, to, "[{main 3}]", "0 [] root", "1 [0] own", "2 [0] other", "3 [1 2] to's", "4 [2 1] from's")
}

// Both changed a pair unlike: the branch stays, and commits have come. That is told ahead of what is wrong with the message.
func TestPullSides(t *testing.T) {
	for _, c := range []struct{ root, own, other []api.Triple }{
		{nil, list("aaa"), list("aab")},
		{list("aaa"), list("aab"), nil},
		{list("aaa"), nil, list("aaa", "aab")},
		{list("aaa", "bbb"), list("aaa", "bbc", "ccc"), list("bba", "bbb")},
	} {
		for _, message := range []string{"p", "\n", strings.Repeat("m", api.MaxText+1)} {
			to, from := apart(t, c.root, c.own, c.other)
			commit(t, from, "side", list("sss"), "side")
			wantRefused(t, to, from, api.ErrSides, func() (int, error) { return sync.Pull(to, from, "main", message) })
			wantShown(t, to, "[{main 1}]", "0 [] root", "1 [0] own", "2 [0] other", "3 [] side")
		}
	}
	// Both changed it alike.
	to, from := apart(t, list("aaa"), list("aab", "bbb"), list("aab", "ccc"))
	wantPull(t, to, from, "main", "p", 3)
	wantGraph(t, to, 3, list("aab", "bbb", "ccc"))
}

// Just as much as a set may have, and one more: that is told ahead of what is wrong with the message.
func TestPullMostSet(t *testing.T) {
	half := api.MaxSet / 2
	to, from := apart(t, nil, span("ap", 0, half), span("bp", 0, half))
	wantPull(t, to, from, "main", "p", 3)
	wantGraph(t, to, 3, slices.Concat(span("ap", 0, half), span("bp", 0, half)))
	for _, message := range []string{"p", "\n"} {
		to, from = apart(t, nil, span("ap", 0, half), span("bp", 0, half+1))
		wantRefused(t, to, from, api.ErrFull, func() (int, error) { return sync.Pull(to, from, "main", message) })
	}
}

// Where they are joined, the message is one of chapter 10.
func TestPullMessages(t *testing.T) {
	for _, message := range []string{"", " ", "~", strings.Repeat("m", api.MaxText)} {
		to, from := apart(t, nil, list("aaa"), list("bbb"))
		wantPull(t, to, from, "main", message, 3)
		if got := to.Commits()[3].Message; got != message {
			t.Errorf("the message is %q, want %q", got, message)
		}
	}
	for message, want := range map[string]api.Errno{
		"\n":                                api.ErrSyntax,
		"m\x7f":                             api.ErrSyntax,
		"\u00e9":                            api.ErrSyntax,
		strings.Repeat("m", api.MaxText+1):  api.ErrFull,
		strings.Repeat("\n", api.MaxText+1): api.ErrFull,
	} {
		to, from := apart(t, nil, list("aaa"), list("bbb"))
		wantRefused(t, to, from, want, func() (int, error) { return sync.Pull(to, from, "main", message) })
		wantPull(t, to, from, "main", "m", 3)
	}
}

// There is no room for one more branch, as with Push.
func TestPullMostNames(t *testing.T) {
	from, to := repo.New(), full(t)
	commit(t, from, "x", list("xxx"), "m")
	commit(t, from, "a", span("ap", 0, 1), "m")
	branch(t, from, "b", 1)
	commit(t, from, "a", list("aaa"), "m")
	wantNoPull(t, to, from, "x", "m", api.ErrFull)
	wantPull(t, to, from, "a", "m", 9)
	wantNoPull(t, to, from, "x", "m", api.ErrFull)
	wantRefused(t, to, from, api.ErrState, func() (int, error) { return sync.Pull(to, from, "b", "m") })
}

// There is no room for what would come: nothing has. There is none for the Join alone: the rest has.
func TestPullFull(t *testing.T) {
	start := line(t, "main", "m", 2)
	for room, want := range []api.Errno{api.ErrFull, api.ErrFull, api.ErrFull, api.OK} {
		to, from := copied(t, start), copied(t, start)
		commit(t, from, "main", list("bbb", "fff"), "f")
		commit(t, from, "main", list("bbb", "fff", "ggg"), "g")
		for i := 2; i < api.MaxCommits-room; i++ {
			commit(t, to, "main", slices.Concat(span("ap", i, i+1), list("bbb")), "t")
		}
		switch {
		case want == api.OK:
			wantPull(t, to, from, "main", "p", api.MaxCommits-1)
			wantGraph(t, to, api.MaxCommits-1, slices.Concat(span("ap", api.MaxCommits-room-1, api.MaxCommits-room), list("bbb", "fff", "ggg")))
		case room == 2:
			wantRefused(t, to, from, want, func() (int, error) { return sync.Pull(to, from, "main", "p") })
		default:
			wantNoPull(t, to, from, "main", "\n", want)
		}
	}
	// Import's error is told ahead of how the branches stand.
	wantNoPull(t, line(t, "main", "o", api.MaxCommits), start, "main", "\n", api.ErrFull)
}

// There is no room for the bytes of the Join's Layer alone.
func TestPullMostBytes(t *testing.T) {
	to, from := repo.New(), repo.New()
	for _, r := range []*repo.Repo{to, from} {
		commit(t, r, "main", nil, "root")
	}
	commit(t, to, "main", list("aaa"), "own")
	commit(t, from, "main", wide(0, api.MaxSet-1), "other")
	commit(t, from, "main", wide(0, api.MaxSet-1)[:api.MaxSet-2], "other")
	for i := range 2 {
		commit(t, to, "z", wide((i+1)*api.MaxSet, (i+2)*api.MaxSet), "z")
		if err := to.Drop("z"); err != nil {
			t.Fatal(err)
		}
	}
	wantRefused(t, to, from, api.ErrFull, func() (int, error) { return sync.Pull(to, from, "main", "p") })
	if got := len(to.Commits()); got != 6 {
		t.Errorf("there are %d commits, want 6", got)
	}
}

// Neither the name nor the message that was handed in is kept.
func TestPullKeepsNoMemory(t *testing.T) {
	for _, own := range [][]api.Triple{list("aaa"), list("ccc")} {
		to, from := apart(t, list("aaa"), own, list("aaa", "bbb"))
		commit(t, from, "other", nil, "m")
		name, message := []byte("main"), []byte("pulled")
		at, err := sync.Pull(to, from, unsafe.String(&name[0], len(name)), unsafe.String(&message[0], len(message)))
		wantNumber(t, "Pull", at, err, 4, api.OK)
		copy(name, "zzzz")
		clear(message)
		name = []byte("other")
		at, err = sync.Push(from, to, unsafe.String(&name[0], len(name)))
		wantNumber(t, "Push", at, err, 3, api.OK)
		copy(name, "zzzzz")
		wantShown(t, to, "[{main 4} {other 3}]", "0 [] root", "1 [0] own", "2 [0] other", "3 [] m", "4 [1 2] pulled")
		wantPull(t, to, from, "main", "m", 4)
	}
}

// Of itself there is nothing to bring.
func TestPullOfItself(t *testing.T) {
	r := full(t)
	before := shown(r)
	wantPull(t, r, r, "a", "\n", 0)
	wantPull(t, r, r, "h", "\n", 7)
	wantNoPull(t, r, r, "x", "m", api.ErrNone)
	wantNoPull(t, r, r, "X", "m", api.ErrSyntax)
	if shown(r) != before {
		t.Errorf("there is\n%s\nwas\n%s", shown(r), before)
	}
}
