package dict_test

import (
	"testing"

	"strataweb/api"
	"strataweb/dict"
)

func TestPack(t *testing.T) {
	a, b, c := named("a"), named("b"), named("c")
	d := dict.New()
	wantPack(t, d, said(c, b, a), [3]int{1, 2, 3})
	wantPack(t, d, said(c, b, a), [3]int{1, 2, 3})
	wantPack(t, d, said(a, b, c), [3]int{3, 2, 1})
	wantPack(t, d, said(anon("x"), b, text("x", "en")), [3]int{4, 2, 5})
	wantPack(t, d, said(a, named("p"), text("x", "")), [3]int{3, 6, 7})
	wantPack(t, d, said(named("s"), named("s"), named("s")), [3]int{8, 8, 8})
	wantPack(t, d, said(named("u"), a, named("u")), [3]int{9, 3, 9})
	wantPack(t, d, said(named("v"), named("v"), named("w")), [3]int{10, 10, 11})
	wantPack(t, d, said(b, named("y"), named("y")), [3]int{2, 12, 12})
	wantHeld(t, d, []api.Term{c, b, a, anon("x"), text("x", "en"), named("p"), text("x", ""), named("s"), named("u"), named("v"), named("w"), named("y")})
}

// wrongTriple is a triple that Check tells of.
type wrongTriple struct {
	x    api.Triple
	want api.Errno
}

// wrongTriples have each fault of a term at each place, behind and ahead of others, and terms at wrong places.
func wrongTriples() []wrongTriple {
	s, p, o := named("s"), named("p"), named("o")
	out := []wrongTriple{
		{api.Triple{}, api.ErrRange},
		{said(text("s", ""), p, o), api.ErrShape},
		{said(s, anon("p"), o), api.ErrShape},
		{said(s, text("p", "en"), o), api.ErrShape},
		{said(text("s", ""), text("p", ""), text("o", "")), api.ErrShape},
	}
	for _, w := range wrongTerms() {
		out = append(out,
			wrongTriple{said(w.x, p, o), w.want},
			wrongTriple{said(s, w.x, o), w.want},
			wrongTriple{said(s, p, w.x), w.want},
			wrongTriple{said(text("s", ""), anon("p"), w.x), w.want},
		)
		for _, v := range wrongTerms() {
			out = append(out,
				wrongTriple{said(w.x, v.x, o), w.want},
				wrongTriple{said(w.x, p, v.x), w.want},
				wrongTriple{said(s, w.x, v.x), w.want},
			)
		}
	}
	return out
}

// Of a triple that is none no term is added, not even those that are right.
func TestPackWrong(t *testing.T) {
	for _, held := range [][]api.Term{nil, {named("p")}, span(0, api.MaxObjects-1), span(0, api.MaxObjects)} {
		d := filled(t, held)
		for _, w := range wrongTriples() {
			wantNoPack(t, d, w.x, w.want)
		}
		wantHeld(t, d, held)
		wantNoId(t, d, named("s"))
	}
}

// Every triple of new and held terms, at each number of places that are left.
func TestPackMost(t *testing.T) {
	for left := range 5 {
		held := span(0, api.MaxObjects-left)
		terms := []api.Term{nth(0), nth(1), named("x"), named("y"), named("z")}
		for _, s := range terms {
			for _, p := range terms {
				for _, o := range terms {
					packNear(t, held, said(s, p, o))
				}
			}
		}
	}
}

// packNear fails unless Pack adds all that are new where they have room, and none where not.
func packNear(t *testing.T, held []api.Term, x api.Triple) {
	t.Helper()
	d := filled(t, held)
	want := added(held, x.S, x.P, x.O)
	if len(want) > api.MaxObjects {
		wantNoPack(t, d, x, api.ErrFull)
		wantHeld(t, d, held)
		return
	}
	ids, err := d.Pack(x)
	wantTold(t, x, err, api.OK)
	wantHeld(t, d, want)
	wantOpen(t, d, ids, x)
}

// What had no room is not known for having been tried: the room that was left is there for others.
func TestPackAfterFull(t *testing.T) {
	held := span(0, api.MaxObjects-2)
	d := filled(t, held)
	a, b, c := named("a"), named("b"), named("c")
	wantNoPack(t, d, said(a, b, c), api.ErrFull)
	for _, x := range []api.Term{a, b, c} {
		wantNoId(t, d, x)
	}
	wantPack(t, d, said(c, b, c), [3]int{api.MaxObjects - 1, api.MaxObjects, api.MaxObjects - 1})
	wantNoPack(t, d, said(c, b, a), api.ErrFull)
	wantPack(t, d, said(b, c, nth(0)), [3]int{api.MaxObjects, api.MaxObjects - 1, 1})
	wantHeld(t, d, added(held, c, b))
}

// Every three numbers of terms of each kind, and of none.
func TestOpen(t *testing.T) {
	held := []api.Term{named("a"), anon("a"), text("a", "en"), named("b"), text("", ""), anon("0")}
	d := filled(t, held)
	for s := range len(held) + 2 {
		for p := range len(held) + 2 {
			for o := range len(held) + 2 {
				openOne(t, d, held, [3]int{s, p, o})
			}
		}
	}
	wantHeld(t, d, held)
}

// openOne fails unless Open answers what these terms by their places ask.
func openOne(t *testing.T, d *dict.Dict, held []api.Term, ids [3]int) {
	t.Helper()
	for _, id := range ids {
		if id < 1 || id > len(held) {
			wantNoOpen(t, d, ids, api.ErrNone)
			return
		}
	}
	x := said(held[ids[0]-1], held[ids[1]-1], held[ids[2]-1])
	if x.S.Kind == api.Text || x.P.Kind != api.Name {
		wantNoOpen(t, d, ids, api.ErrShape)
		return
	}
	wantOpen(t, d, ids, x)
	wantPack(t, d, x, ids)
}

// A number that is none is told ahead of terms at wrong places.
func TestOpenWrong(t *testing.T) {
	d := filled(t, []api.Term{text("a", ""), named("b")})
	for _, id := range append(strange(), 3) {
		wantNoOpen(t, d, [3]int{1, 1, id}, api.ErrNone)
		wantNoOpen(t, d, [3]int{1, id, 1}, api.ErrNone)
		wantNoOpen(t, d, [3]int{id, 1, 1}, api.ErrNone)
		wantNoOpen(t, d, [3]int{2, 2, id}, api.ErrNone)
		wantNoOpen(t, d, [3]int{id, id, id}, api.ErrNone)
	}
	wantHeld(t, d, []api.Term{text("a", ""), named("b")})
}

// FuzzCalls holds a Dict, nearly full from the beginning or not, against a list.
func FuzzCalls(f *testing.F) {
	f.Add(byte(0), []byte{0, 1, 2, 3, 4, 5, 6, 7})
	f.Add(byte(2), []byte{1, 2, 3, 9, 9, 9, 9, 1, 1, 200, 3, 90})
	f.Add(byte(255), []byte{255, 254, 253, 252, 0, 0, 0, 0})
	f.Fuzz(func(t *testing.T, left byte, calls []byte) {
		held := span(0, api.MaxObjects-int(left))
		d := filled(t, held)
		for ; len(calls) >= 4; calls = calls[4:] {
			x := said(made(calls[1]), made(calls[2]), made(calls[3]))
			if calls[0]%2 == 0 {
				held = addNext(t, d, held, x.S)
			} else {
				held = packNext(t, d, held, x)
			}
		}
		wantHeld(t, d, held)
	})
}

// made is a term of a byte: a Name, an Anon, a Text, or none.
func made(b byte) api.Term {
	x := nth(int(b) + 100)
	x.Kind = []int{api.Name, api.Name, api.Name, api.Name, api.Anon, api.Text, 0}[int(b)%7]
	return x
}

// addNext adds a term, and tells what is held then.
func addNext(t *testing.T, d *dict.Dict, held []api.Term, x api.Term) []api.Term {
	t.Helper()
	want := added(held, x)
	switch {
	case x.Kind == 0:
		wantNoAdd(t, d, x, api.ErrRange)
		return held
	case len(want) > api.MaxObjects:
		wantNoAdd(t, d, x, api.ErrFull)
		return held
	}
	id, err := d.Add(x)
	wantTold(t, x, err, api.OK)
	if got, err := d.Term(id); err != nil || got != x {
		t.Errorf("Add(%v) = %d, which is %v, %v", x, id, got, err)
	}
	return want
}

// packNext packs a triple, and tells what is held then.
func packNext(t *testing.T, d *dict.Dict, held []api.Term, x api.Triple) []api.Term {
	t.Helper()
	want := added(held, x.S, x.P, x.O)
	switch {
	case x.S.Kind == 0 || x.P.Kind == 0 || x.O.Kind == 0:
		wantNoPack(t, d, x, api.ErrRange)
		return held
	case x.S.Kind == api.Text || x.P.Kind != api.Name:
		wantNoPack(t, d, x, api.ErrShape)
		return held
	case len(want) > api.MaxObjects:
		wantNoPack(t, d, x, api.ErrFull)
		return held
	}
	ids, err := d.Pack(x)
	wantTold(t, x, err, api.OK)
	wantOpen(t, d, ids, x)
	return want
}
