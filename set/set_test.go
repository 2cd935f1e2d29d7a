package set_test

import (
	"slices"
	"testing"

	"strataweb/api"
	"strataweb/set"
	"strataweb/triple"
)

// op is Join, Less or Both.
type op struct {
	name string
	call func(a, b []api.Triple) ([]api.Triple, error)
	// bits says which are in the answer, of those that are in a and in b.
	bits func(a, b int) int
}

func ops() []op {
	return []op{
		{"Join", set.Join, func(a, b int) int { return a | b }},
		{"Less", set.Less, func(a, b int) int { return a &^ b }},
		{"Both", set.Both, func(a, b int) int { return a & b }},
	}
}

// wantSet fails unless a call answers this set, leaves alone what it was given, and answers memory of its own.
func wantSet(t *testing.T, o op, a, b, want []api.Triple) {
	t.Helper()
	keptA, keptB := slices.Clone(a), slices.Clone(b)
	got, err := o.call(a, b)
	wantTold(t, o.name, err, api.OK)
	if !slices.Equal(got, want) {
		t.Errorf("%s(%v, %v) = %v, want %v", o.name, a, b, got, want)
	}
	for i := range got {
		got[i] = api.Triple{}
	}
	if !slices.Equal(a, keptA) || !slices.Equal(b, keptB) {
		t.Errorf("%s wrote into what it was given: %v, %v", o.name, a, b)
	}
}

func TestJoinLessBoth(t *testing.T) {
	for _, c := range []struct{ a, b, join, less, both []api.Triple }{
		{},
		{a: []api.Triple{}, b: []api.Triple{}},
		{a: list("abc"), join: list("abc"), less: list("abc")},
		{b: list("abc"), join: list("abc")},
		{a: list("abc"), b: list("abc"), join: list("abc"), both: list("abc")},
		{a: list("abc"), b: list("abd"), join: list("abc", "abd"), less: list("abc")},
		{a: list("abd"), b: list("abc"), join: list("abc", "abd"), less: list("abd")},
		{
			a:    list("aaa", "bbb", "ccc", "eee"),
			b:    list("abb", "bbb", "ddd", "eee", "fff"),
			join: list("aaa", "abb", "bbb", "ccc", "ddd", "eee", "fff"),
			less: list("aaa", "ccc"),
			both: list("bbb", "eee"),
		},
	} {
		for i, want := range [][]api.Triple{c.join, c.less, c.both} {
			wantSet(t, ops()[i], c.a, c.b, want)
		}
	}
}

func TestAllSmallSets(t *testing.T) {
	all := universe()
	wantTold(t, all, triple.Sorted(all), api.OK)
	for a := range 1 << len(all) {
		for b := range 1 << len(all) {
			for _, o := range ops() {
				wantSet(t, o, picked(all, a), picked(all, b), picked(all, o.bits(a, b)))
			}
		}
	}
}

func TestOneListTwice(t *testing.T) {
	l := list("aaa", "bbb")
	for i, want := range [][]api.Triple{l, nil, l} {
		wantSet(t, ops()[i], l, l, want)
	}
}

func TestJoinMost(t *testing.T) {
	const most = api.MaxSet
	join := ops()[0]
	for _, c := range []struct{ a, b []api.Triple }{
		{span(0, most), nil},
		{nil, span(0, most)},
		{span(0, most), span(0, most)},
		{span(0, most), span(3, 5)},
		{span(most-1, most), span(0, most)},
		{span(0, 100), span(100, most)},
		{span(100, most), span(0, 100)},
		{span(0, most-1), span(1, most)},
	} {
		wantSet(t, join, c.a, c.b, span(0, most))
	}
	for _, c := range []struct{ a, b []api.Triple }{
		{span(0, most), span(most, most+1)},
		{span(0, 1), span(1, most+1)},
		{span(0, most), span(1, most+1)},
		{span(0, most), span(most, 2*most)},
		{span(0, 100), span(100, most+1)},
	} {
		wantNone(t, join, c.a, c.b, api.ErrFull)
	}
}

// More in all than MaxSet is for Join alone to tell.
func TestLessBothMost(t *testing.T) {
	const most = api.MaxSet
	less, both := ops()[1], ops()[2]
	wantSet(t, less, span(0, most), span(most, 2*most), span(0, most))
	wantSet(t, both, span(0, most), span(most, 2*most), nil)
	wantSet(t, less, span(0, most), span(1, most+1), span(0, 1))
	wantSet(t, both, span(0, most), span(1, most+1), span(1, most))
	wantSet(t, less, span(0, most), span(0, most), nil)
	wantSet(t, both, span(0, most), span(0, most), span(0, most))
}

// wantNone fails unless a call tells this error, and nothing else.
func wantNone(t *testing.T, o op, a, b []api.Triple, want api.Errno) {
	t.Helper()
	got, err := o.call(a, b)
	wantTold(t, o.name, err, want)
	if len(got) != 0 {
		t.Errorf("%s = %v, want none", o.name, got)
	}
}

// What is wrong with a is told ahead of what is wrong with b.
func TestNoSets(t *testing.T) {
	for _, o := range ops() {
		for _, x := range faults() {
			wantNone(t, o, x.l, nil, x.want)
			wantNone(t, o, nil, x.l, x.want)
			wantNone(t, o, x.l, list("abc"), x.want)
			wantNone(t, o, list("abc"), x.l, x.want)
			wantNone(t, o, span(0, api.MaxSet), x.l, x.want)
			for _, y := range faults() {
				wantNone(t, o, x.l, y.l, x.want)
			}
		}
	}
}

// What lies behind a list's length is neither read nor written, and no answer reaches into it.
func TestNothingBehindTheLength(t *testing.T) {
	for _, o := range ops() {
		for n := range 3 {
			for m := range 3 {
				one, two := list("aaa", "ccc", "aaa", "zzz"), list("bbb", "ddd", "bbb", "yyy")
				keptOne, keptTwo := slices.Clone(one), slices.Clone(two)
				got, err := o.call(one[:n], two[:m])
				wantTold(t, o.name, err, api.OK)
				_ = append(got, list("eee", "fff", "ggg", "hhh")...)
				if !slices.Equal(one, keptOne) || !slices.Equal(two, keptTwo) {
					t.Errorf("%s of %d and %d: written into: %v, %v", o.name, n, m, one, two)
				}
			}
		}
	}
}

func FuzzSets(f *testing.F) {
	f.Add([]byte{}, []byte{})
	f.Add([]byte{3, 2, 1, 3, 200}, []byte{1, 255})
	f.Fuzz(func(t *testing.T, a, b []byte) {
		all := span(0, 256)
		var inA, inB [256]bool
		for _, n := range a {
			inA[n] = true
		}
		for _, n := range b {
			inB[n] = true
		}
		pick := func(is func(n int) bool) []api.Triple {
			var l []api.Triple
			for n, x := range all {
				if is(n) {
					l = append(l, x)
				}
			}
			return l
		}
		x, y := pick(func(n int) bool { return inA[n] }), pick(func(n int) bool { return inB[n] })
		if len(x) > api.MaxSet || len(y) > api.MaxSet {
			return
		}
		join := pick(func(n int) bool { return inA[n] || inB[n] })
		if len(join) > api.MaxSet {
			wantNone(t, ops()[0], x, y, api.ErrFull)
		} else {
			wantSet(t, ops()[0], x, y, join)
		}
		wantSet(t, ops()[1], x, y, pick(func(n int) bool { return inA[n] && !inB[n] }))
		wantSet(t, ops()[2], x, y, pick(func(n int) bool { return inA[n] && inB[n] }))
	})
}
