package dict_test

import (
	"strings"
	"testing"

	"strataweb/api"
	"strataweb/dict"
)

func TestEmpty(t *testing.T) {
	d := dict.New()
	wantHeld(t, d, nil)
	wantNoId(t, d, named("a"))
	wantNoId(t, d, api.Term{})
	for _, id := range []int{0, 1, 2} {
		wantNoOpen(t, d, [3]int{id, id, id}, api.ErrNone)
	}
}

// Numbers go by when a term came, not by how it stands to others.
func TestAdd(t *testing.T) {
	d := dict.New()
	wantAdd(t, d, named("z"), 1)
	wantAdd(t, d, text("", ""), 2)
	wantAdd(t, d, named("a"), 3)
	wantAdd(t, d, named("z"), 1)
	wantAdd(t, d, anon("a"), 4)
	wantAdd(t, d, named("a"), 3)
	wantAdd(t, d, text("", ""), 2)
	wantAdd(t, d, named("b"), 5)
	wantHeld(t, d, []api.Term{named("z"), text("", ""), named("a"), anon("a"), named("b")})
}

// Each that is unlike by Kind, S or Lang alone is one of its own.
func TestAddAlike(t *testing.T) {
	wantHeld(t,
		filled(t, []api.Term{named("a"), anon("a"), text("a", ""), text("a", "en"), text("a", "de"), text("en", ""), text("", "en"), text("", ""), named("aa")}),
		[]api.Term{named("a"), anon("a"), text("a", ""), text("a", "en"), text("a", "de"), text("en", ""), text("", "en"), text("", ""), named("aa")})
}

func TestAddLongest(t *testing.T) {
	longest := strings.Repeat("a", api.MaxText)
	terms := []api.Term{named(longest), anon(longest), text(longest, "en"), text(longest, "")}
	wantHeld(t, filled(t, terms), terms)
}

func TestAddWrong(t *testing.T) {
	for _, held := range [][]api.Term{nil, {named("a")}, {text("a", ""), anon("a"), named("a")}} {
		d := filled(t, held)
		for _, w := range wrongTerms() {
			wantNoAdd(t, d, w.x, w.want)
			wantNoAdd(t, d, w.x, w.want)
			wantNoId(t, d, w.x)
		}
		wantHeld(t, d, held)
		wantAdd(t, d, named("b"), len(held)+1)
	}
}

// A Dict that is full still knows what it has, and tells of a wrong term what Check does.
func TestAddMost(t *testing.T) {
	all := span(0, api.MaxObjects)
	d := filled(t, all)
	for range 2 {
		wantNoAdd(t, d, nth(api.MaxObjects), api.ErrFull)
		wantNoAdd(t, d, text("a", "en"), api.ErrFull)
		wantNoId(t, d, nth(api.MaxObjects))
		for i, x := range all {
			wantAdd(t, d, x, i+1)
		}
		for _, w := range wrongTerms() {
			wantNoAdd(t, d, w.x, w.want)
			wantNoId(t, d, w.x)
		}
		wantHeld(t, d, all)
	}
}

// What is asked gets no number by being asked.
func TestAskedIsNotAdded(t *testing.T) {
	d := filled(t, span(0, 2))
	wantNoId(t, d, named("a"))
	wantNoTerm(t, d, 3)
	wantNoOpen(t, d, [3]int{1, 2, 3}, api.ErrNone)
	wantHeld(t, d, span(0, 2))
	wantAdd(t, d, named("b"), 3)
	wantNoId(t, d, named("a"))
}

// One Dict knows nothing of another one.
func TestTwoDicts(t *testing.T) {
	one, two := dict.New(), dict.New()
	wantAdd(t, one, named("a"), 1)
	wantNoId(t, two, named("a"))
	wantAdd(t, two, named("b"), 1)
	wantAdd(t, two, named("a"), 2)
	wantHeld(t, one, []api.Term{named("a")})
	wantHeld(t, two, []api.Term{named("b"), named("a")})
	wantHeld(t, dict.New(), nil)
}
