package sync_test

import (
	"fmt"
	"maps"
	"math/rand"
	"slices"
	"strings"
	"testing"

	"strataweb/api"
	"strataweb/repo"
	"strataweb/sync"
)

// merged says by bits, pair by pair, in the chapter's words, what comes of two sides, and whether both changed a pair unlike.
func merged(base, a, b int) (out int, clash bool) {
	_, groups := universe()
	for _, g := range groups {
		x, y, z := base&g, a&g, b&g
		switch {
		case y == z || z == x:
			out |= y
		case y == x:
			out |= z
		default:
			clash = true
		}
	}
	return out, clash
}

// thing is what a commit is made of: bits for its graph, parents by their numbers in the world.
type thing struct {
	bits    int
	message string
	parents []int
}

// world has all commits that ever were, in whichever Repo, each once.
type world struct {
	things  []thing
	numbers map[string]int
	found   map[int]map[int]bool
	seen    map[string]int // how often each came of a call
}

func (w *world) number(x thing) int {
	key := fmt.Sprintf("%d %q %d", x.bits, x.message, x.parents)
	if _, ok := w.numbers[key]; !ok {
		w.numbers[key] = len(w.things)
		w.things = append(w.things, x)
	}
	return w.numbers[key]
}

// ancestors are those of a commit, itself too. They stay the same, so they are sought once.
func (w *world) ancestors(at int) map[int]bool {
	if out, ok := w.found[at]; ok {
		return out
	}
	out := map[int]bool{at: true}
	for _, p := range w.things[at].parents {
		maps.Copy(out, w.ancestors(p))
	}
	w.found[at] = out
	return out
}

// bases are what both came of, and no other such did.
func (w *world) bases(a, b int) []int {
	var shared, out []int
	for i := range w.ancestors(a) {
		if w.ancestors(b)[i] {
			shared = append(shared, i)
		}
	}
	for _, i := range shared {
		if !slices.ContainsFunc(shared, func(j int) bool { return i != j && w.ancestors(j)[i] }) {
			out = append(out, i)
		}
	}
	return out
}

// side is a Repo, and what it should have: commits by their numbers in the world.
type side struct {
	r    *repo.Repo
	w    *world
	own  []int
	refs map[string]int
}

// take is the place of a commit: of the one that is there, else of one more. There has to be room.
func (s *side) take(at int) int {
	if i := slices.Index(s.own, at); i >= 0 {
		return i
	}
	s.own = append(s.own, at)
	return len(s.own) - 1
}

// room tells whether these may come.
func (s *side) room(l ...int) bool {
	more := slices.DeleteFunc(slices.Clone(l), func(at int) bool { return slices.Contains(s.own, at) })
	return len(s.own)+len(more) <= api.MaxCommits
}

// commit and join do so where there is room.
func (s *side) commit(t *testing.T, name string, bits int, message string) {
	t.Helper()
	x := thing{bits: bits, message: message}
	head, ok := s.refs[name]
	if ok {
		x.parents = []int{head}
	}
	if at := s.w.number(x); s.room(at) && (ok || len(s.refs) < api.MaxNames) {
		s.refs[name] = at
		n, err := s.r.Commit(name, picked(bits), message)
		wantNumber(t, "Commit", n, err, s.take(at), api.OK)
	}
}

func (s *side) join(t *testing.T, name string, other, bits int, message string) {
	t.Helper()
	head, ok := s.refs[name]
	if !ok || head == s.own[other] {
		return
	}
	at := s.w.number(thing{bits, message, []int{head, s.own[other]}})
	if !s.room(at) {
		return
	}
	s.refs[name] = at
	n, err := s.r.Join(name, other, picked(bits), message)
	wantNumber(t, "Join", n, err, s.take(at), api.OK)
}

// lead makes a branch lead to a commit, where there is room.
func (s *side) lead(t *testing.T, name string, other int) {
	t.Helper()
	if _, ok := s.refs[name]; ok || len(s.refs) < api.MaxNames {
		s.refs[name] = s.own[other]
		branch(t, s.r, name, other)
	}
}

// fetch says what comes.
func (s *side) fetch(from *side) ([]int, api.Errno) {
	if !s.room(from.own...) {
		return nil, api.ErrFull
	}
	var out []int
	for _, at := range slices.Clone(from.own) {
		out = append(out, s.take(at))
	}
	return out, api.OK
}

// push says where the branch leads, by the chapter's words, each in its turn.
func (s *side) push(from *side, name string) (int, api.Errno) {
	theirs, ok := from.refs[name]
	own, isThere := s.refs[name]
	switch {
	case !ok:
		return 0, api.ErrNone
	case !s.room(from.own...) || !isThere && len(s.refs) == api.MaxNames:
		return 0, api.ErrFull
	}
	s.fetch(from)
	if isThere && !s.w.ancestors(theirs)[own] {
		return 0, api.ErrState
	}
	s.w.seen[map[bool]string{true: "on", false: "new"}[isThere]]++
	s.refs[name] = theirs
	return s.take(theirs), api.OK
}

// pull says so, likewise.
func (s *side) pull(from *side, name, message string) (int, api.Errno) {
	if n, told := s.push(from, name); told != api.ErrState {
		return n, told
	}
	own, theirs := s.refs[name], from.refs[name]
	if s.w.ancestors(own)[theirs] {
		s.w.seen["ahead"]++
		return s.take(own), api.OK
	}
	bases := s.w.bases(own, theirs)
	if len(bases) != 1 {
		s.w.seen[fmt.Sprint("bases: ", len(bases))]++
		return 0, api.ErrState
	}
	bits, clash := merged(s.w.things[bases[0]].bits, s.w.things[own].bits, s.w.things[theirs].bits)
	at := s.w.number(thing{bits, message, []int{own, theirs}})
	switch {
	case clash:
		return 0, api.ErrSides
	case strings.Contains(message, "\n"):
		return 0, api.ErrSyntax
	case !s.room(at):
		return 0, api.ErrFull
	}
	s.w.seen["joined"]++
	s.refs[name] = at
	return s.take(at), api.OK
}

// held fails unless the Repo has just what it should have.
func (s *side) held(t *testing.T) {
	t.Helper()
	var refs []api.Ref
	for _, name := range slices.Sorted(maps.Keys(s.refs)) {
		refs = append(refs, api.Ref{Name: name, Commit: s.take(s.refs[name])})
	}
	if got := s.r.Refs(); !slices.Equal(got, refs) {
		t.Fatalf("branches are %v, want %v", got, refs)
	}
	got := s.r.Commits()
	if len(got) != len(s.own) || len(sync.Names(s.r)) != len(got) {
		t.Fatalf("there are %d commits, want %d", len(got), len(s.own))
	}
	for i, at := range s.own {
		x := s.w.things[at]
		var parents []int
		for _, p := range x.parents {
			parents = append(parents, s.take(p))
		}
		if !slices.Equal(got[i].Parents, parents) || got[i].Message != x.message {
			t.Fatalf("commit %d is %v, want %v and %q", i, got[i], parents, x.message)
		}
		wantGraph(t, s.r, i, picked(x.bits))
	}
}

// sides makes so many, none of which has anything.
func sides(size int) []*side {
	w := &world{numbers: map[string]int{}, found: map[int]map[int]bool{}, seen: map[string]int{}}
	var out []*side
	for range size {
		out = append(out, &side{r: repo.New(), w: w, refs: map[string]int{}})
	}
	return out
}

// fetchBoth has each of two fetch what the other one has.
func fetchBoth(t *testing.T, a, b *side) {
	t.Helper()
	for _, pair := range [][2]*side{{a, b}, {b, a}} {
		want, told := pair[0].fetch(pair[1])
		got, err := sync.Fetch(pair[0].r, pair[1].r)
		wantTold(t, "Fetch", err, told)
		if !slices.Equal(got, want) {
			t.Errorf("Fetch told %v, want %v", got, want)
		}
	}
}

// step does one thing, that three bytes say, with one of the sides.
func step(t *testing.T, all []*side, what, x, y byte) {
	t.Helper()
	to, from := all[int(what)%len(all)], all[int(what/8)%len(all)]
	name := string("aaaaaabbbcdefghij"[int(x)%17])
	message := []string{"", "m", "\n"}[y%3]
	switch x / 17 % 8 {
	case 0, 1:
		// Few triples, so that both sides often change unlike pairs, or alike.
		to.commit(t, name, 1<<(y%5)|1<<(y/5%3*2), "m")
	case 2:
		to.commit(t, name, int(y)%32, strings.Trim(message, "\n"))
	case 3:
		if len(to.own) > 0 {
			to.lead(t, name, int(y)%len(to.own))
		}
	case 4:
		if len(to.own) > 0 {
			to.join(t, name, int(y)%len(to.own), int(y)%32, "j")
		}
	case 5:
		own, ok := to.refs[name]
		theirs, isThere := from.refs[name]
		fetchBoth(t, to, from)
		// Each joins what the other one has now.
		if ok && isThere && y%2 == 0 && slices.Contains(to.own, theirs) && slices.Contains(from.own, own) {
			to.join(t, name, to.take(theirs), int(y)%4, "j")
			from.join(t, name, from.take(own), int(y)%4, "j")
		}
	case 6:
		want, told := to.push(from, name)
		got, err := sync.Push(from.r, to.r, name)
		wantNumber(t, "Push "+name, got, err, want, told)
		to.w.seen["Push "+told.Error()]++
	default:
		want, told := to.pull(from, name, message)
		got, err := sync.Pull(to.r, from.r, name, message)
		wantNumber(t, "Pull "+name, got, err, want, told)
		to.w.seen["Pull "+told.Error()]++
	}
}

// Many calls in any order, held against what should be there; all that may come of one does, often.
func TestManyCalls(t *testing.T) {
	by := rand.New(rand.NewSource(18))
	seen := map[string]int{}
	for range 200 {
		all := sides(2 + by.Intn(2))
		all[0].w.seen = seen
		// Most have something in common from the beginning.
		for _, s := range all[by.Intn(9)/8:] {
			s.commit(t, "a", 0, "root")
			s.commit(t, "b", 31, "root")
		}
		for range 1 + by.Intn(150) {
			step(t, all, byte(by.Int()), byte(by.Int()), byte(by.Int()))
			if t.Failed() {
				return
			}
		}
		for _, s := range all {
			s.held(t)
		}
	}
	for _, what := range []string{
		"new", "on", "ahead", "joined", "bases: 0", "bases: 2",
		"Push OK", "Push ErrNone", "Push ErrState", "Push ErrFull",
		"Pull OK", "Pull ErrNone", "Pull ErrState", "Pull ErrSides", "Pull ErrSyntax", "Pull ErrFull",
	} {
		if seen[what] < 10 {
			t.Errorf("%s came just %d times", what, seen[what])
		}
	}
}

// FuzzCalls holds two Repos against what they should have, behind any calls.
func FuzzCalls(f *testing.F) {
	f.Add([]byte{0, 0, 1, 9, 84, 0, 0, 0, 2, 1, 0, 5, 8, 98, 1})
	f.Add([]byte{0, 0, 1, 9, 70, 0, 1, 0, 2, 8, 98, 1, 1, 98, 1})
	f.Fuzz(func(t *testing.T, calls []byte) {
		all := sides(2)
		for ; len(calls) >= 3; calls = calls[3:] {
			step(t, all, calls[0], calls[1], calls[2])
		}
		for _, s := range all {
			s.held(t)
		}
	})
}
