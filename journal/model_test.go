package journal_test

import (
	"math/rand"
	"testing"

	"strataweb/api"
	"strataweb/journal"
)

// model is what should be there: deeds, how many of them are safe, and bytes of one that was stopped.
type model struct {
	done    []deed
	safe    int
	half    int
	ahead   int
	stopped bool
	seen    map[string]int // how often each came
}

// played is a Journal, and what it should have.
type played struct {
	j *journal.Journal
	m *model
}

func started() played {
	return played{journal.New(), &model{ahead: -1, seen: map[string]int{}}}
}

// stops counts a step.
func (m *model) stops() bool {
	m.stopped = m.stopped || m.ahead == 0
	if m.ahead > 0 {
		m.ahead--
	}
	return m.stopped
}

// do a deed on both.
func (p played) do(t *testing.T, d deed) {
	t.Helper()
	got, err := d.do(p.j)
	want, refused := d.do(made(t, p.m.done))
	switch {
	case p.m.stopped:
		wantNumber(t, d, got, err, 0, api.ErrState)
		p.m.seen["stopped already"]++
	case refused != nil:
		wantNumber(t, d, got, err, 0, refused.(api.Errno))
		p.m.seen["refused"]++
	case p.m.stops():
		wantNumber(t, d, got, err, 0, api.ErrState)
		at := ends(t, append(p.m.done[:len(p.m.done):len(p.m.done)], d))
		p.m.half = (at[len(at)-1] - at[len(at)-2]) / 2
		p.m.seen["stopped at a deed"]++
	default:
		wantNumber(t, d, got, err, want, api.OK)
		p.m.done = append(p.m.done, d)
		p.m.seen["done"]++
	}
}

func (p played) sync(t *testing.T) {
	t.Helper()
	err := p.j.Sync()
	if p.m.stopped || p.m.stops() {
		wantTold(t, "Sync", err, api.ErrState)
		p.m.seen["no Sync"]++
		return
	}
	wantTold(t, "Sync", err, api.OK)
	p.m.safe = len(p.m.done)
}

func (p played) fail(n int) {
	p.j.Fail(n)
	p.m.ahead = n
}

func (p played) crash(t *testing.T, keep int) {
	t.Helper()
	at := ends(t, p.m.done)
	there := at[len(p.m.done)] + p.m.half
	kept := min(there, at[p.m.safe]+max(0, keep))
	left := whole(at, kept)
	switch {
	case left == p.m.safe:
		p.m.seen["all lost"]++
	case kept != at[left]:
		p.m.seen["cut inside"]++
	default:
		p.m.seen["cut behind one"]++
	}
	p.j.Crash(keep)
	*p.m = model{done: p.m.done[:left], safe: left, ahead: -1, seen: p.m.seen}
}

// held fails unless the Journal has just what it should have.
func (p played) held(t *testing.T) {
	t.Helper()
	at := ends(t, p.m.done)
	wantSizes(t, p.j, at[len(p.m.done)]+p.m.half, at[p.m.safe])
	wantRepo(t, p.j, made(t, p.m.done))
}

// step does one thing, that three bytes say.
func (p played) step(t *testing.T, what, x, y byte) {
	t.Helper()
	name := string("aaaabbbcdefghiA"[int(x)%15])
	switch what % 16 {
	case 0, 1, 2:
		p.sync(t)
	case 3, 4:
		p.fail(int(x)%8 - 1)
	case 5:
		p.crash(t, int(int8(x))+int(y)/4*8)
	case 6, 7, 8:
		p.do(t, deed{isBranch: true, name: name, at: int(y)%8 - 1})
	default:
		set := list("aaa", "bbb", "ccc", "ddd")[y%4 : 4-x%2]
		p.do(t, deed{name: name, set: set, message: []string{"", "m", "m m", "\n"}[y/4%4]})
	}
}

// Many calls in any order, held against what should be there; all that may come of one does, often.
func TestManyCalls(t *testing.T) {
	by := rand.New(rand.NewSource(19))
	seen := map[string]int{}
	for range 150 {
		p := started()
		p.m.seen = seen
		for range 1 + by.Intn(60) {
			p.step(t, byte(by.Int()), byte(by.Int()), byte(by.Int()))
			if t.Failed() {
				return
			}
		}
		p.held(t)
	}
	for _, what := range []string{"stopped already", "refused", "stopped at a deed", "done", "no Sync", "all lost", "cut inside", "cut behind one"} {
		if seen[what] < 20 {
			t.Errorf("%s: just %d times", what, seen[what])
		}
	}
}

// FuzzCalls holds a Journal against what it should have, behind any calls.
func FuzzCalls(f *testing.F) {
	f.Add([]byte{9, 0, 0, 0, 0, 0, 9, 4, 1, 4, 1, 0, 6, 8, 1, 9, 0, 2, 5, 40, 0, 9, 0, 3})
	f.Add([]byte{9, 0, 0, 3, 2, 0, 6, 8, 1, 0, 0, 0, 5, 255, 0})
	f.Fuzz(func(t *testing.T, calls []byte) {
		p := started()
		for n := 0; len(calls) >= 3 && n < 100; n++ {
			p.step(t, calls[0], calls[1], calls[2])
			calls = calls[3:]
		}
		p.held(t)
	})
}
