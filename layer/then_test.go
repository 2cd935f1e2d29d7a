package layer_test

import (
	"slices"
	"testing"

	"strataweb/api"
	"strataweb/layer"
)

func TestThen(t *testing.T) {
	for _, c := range []struct{ a, b, want api.Layer }{
		{},
		{a: of(list("abc"), nil), want: of(list("abc"), nil)},
		{b: of(list("abc"), nil), want: of(list("abc"), nil)},
		{a: of(nil, list("abc")), want: of(nil, list("abc"))},
		{b: of(nil, list("abc")), want: of(nil, list("abc"))},
		// What is undone is not done.
		{a: of(list("abc"), nil), b: of(nil, list("abc"))},
		{a: of(nil, list("abc")), b: of(list("abc"), nil)},
		{
			of(list("bbb", "ddd"), list("eee", "fff")),
			of(list("aaa", "fff"), list("ccc", "ddd")),
			of(list("aaa", "bbb"), list("ccc", "eee")),
		},
	} {
		got, err := layer.Then(c.a, c.b)
		wantLayer(t, c, got, err, c.want)
	}
}

// Wherever a and then b go, what Then tells goes, and comes out at the same.
func TestThenAllSmall(t *testing.T) {
	all := universe()[:4]
	n := 1 << len(all)
	for bits := range n * n * n * n {
		addA, takeA, addB, takeB := bits%n, bits/n%n, bits/n/n%n, bits/n/n/n
		a, b := change(all, addA, takeA), change(all, addB, takeB)
		what := []int{addA, takeA, addB, takeB}
		got, err := layer.Then(a, b)
		if addA&takeA|addB&takeB|addA&addB|takeA&takeB != 0 {
			wantNoLayer(t, what, got, err, api.ErrClash)
			continue
		}
		wantTold(t, what, err, api.OK)
		wantTold(t, what, layer.Check(got), api.OK)
		// They go where all that either takes is there ahead of it, and nothing that either adds.
		s := takeA | takeB&^addA
		for _, start := range []int{s, s | (n-1)&^(addA|takeA|addB|takeB)} {
			wantSameEnd(t, picked(all, start), a, b, got)
		}
		wantLayer(t, what, got, err, change(all, addA&^takeB|addB&^takeA, takeA&^addB|takeB&^addA))
	}
}

// wantSameEnd fails unless a and then b go, and come out where the one goes.
func wantSameEnd(t *testing.T, s []api.Triple, a, b, one api.Layer) {
	t.Helper()
	mid, err := layer.Apply(s, a)
	wantTold(t, a, err, api.OK)
	end, err := layer.Apply(mid, b)
	wantTold(t, b, err, api.OK)
	got, err := layer.Apply(s, one)
	wantSet(t, one, got, err, end)
}

func TestThenMost(t *testing.T) {
	for _, c := range []struct{ a, b, want api.Layer }{
		{a: of(span(0, most), span(most, 2*most)), want: of(span(0, most), span(most, 2*most))},
		{b: of(span(0, most), span(most, 2*most)), want: of(span(0, most), span(most, 2*most))},
		{of(span(0, 100), nil), of(span(100, most), nil), of(span(0, most), nil)},
		{of(nil, span(100, most)), of(nil, span(0, 100)), of(nil, span(0, most))},
		// What is undone isn't counted.
		{of(span(0, most), nil), of(nil, span(0, most)), of(nil, nil)},
		{of(span(0, most), nil), of(span(most, 2*most), span(0, most)), of(span(most, 2*most), nil)},
		{of(nil, span(0, most)), of(span(0, most), span(most, 2*most)), of(nil, span(most, 2*most))},
		{of(span(0, most), nil), of(span(most, most+1), span(0, 1)), of(span(1, most+1), nil)},
		{of(nil, span(0, most)), of(span(0, 1), span(most, most+1)), of(nil, span(1, most+1))},
	} {
		got, err := layer.Then(c.a, c.b)
		wantLayer(t, "Then", got, err, c.want)
	}
	for _, c := range []struct{ a, b api.Layer }{
		{of(span(0, most), nil), of(span(most, most+1), nil)},
		{of(span(0, 1), nil), of(span(1, most+1), nil)},
		{of(nil, span(0, most)), of(nil, span(most, most+1))},
		{of(nil, span(0, 1)), of(nil, span(1, most+1))},
		{of(span(0, most), nil), of(span(most, most+2), span(0, 1))},
		{of(nil, span(0, most)), of(span(0, 1), span(most, most+2))},
		// Add alone would do.
		{of(list("abc"), span(0, most)), of(list("abd"), span(most, 2*most))},
	} {
		got, err := layer.Then(c.a, c.b)
		wantNoLayer(t, "Then", got, err, api.ErrFull)
	}
}

// What is wrong with a is told ahead of what is wrong with b, and both ahead of how they go together.
func TestThenFaults(t *testing.T) {
	all := ills()
	for _, x := range all {
		for _, l := range []api.Layer{{}, of(list("abc"), list("abd")), of(span(0, most), nil)} {
			got, err := layer.Then(x.l, l)
			wantNoLayer(t, x, got, err, x.want)
			got, err = layer.Then(l, x.l)
			wantNoLayer(t, x, got, err, x.want)
		}
		for _, y := range all[:20] {
			got, err := layer.Then(x.l, y.l)
			wantNoLayer(t, x, got, err, x.want)
			got, err = layer.Then(y.l, x.l)
			wantNoLayer(t, y, got, err, y.want)
		}
	}
}

// A clash is told ahead of too many.
func TestThenTellsFirst(t *testing.T) {
	for _, c := range []struct{ a, b api.Layer }{
		{of(list("abc"), nil), of(list("abc"), nil)},
		{of(nil, list("abc")), of(nil, list("abc"))},
		{of(span(0, most), nil), of(span(most-1, most+5), nil)},
		{of(nil, span(0, most)), of(nil, span(most-1, most+5))},
		{of(span(0, most), list("abc")), of(span(most, most+5), list("abc"))},
		{of(list("abc"), span(0, most)), of(list("abc"), span(most, most+5))},
		{of(list("aaa", "abc"), nil), of(list("abc"), list("aaa"))},
	} {
		got, err := layer.Then(c.a, c.b)
		wantNoLayer(t, "Then", got, err, api.ErrClash)
	}
}

// FuzzWalk goes from set to set, and back: steps one by one, and all of them as one.
func FuzzWalk(f *testing.F) {
	f.Add([]byte{}, []byte{}, []byte{})
	f.Add([]byte{1, 2, 3}, []byte{3, 4, 5, 200}, []byte{255, 2, 200})
	f.Fuzz(func(t *testing.T, a, b, c []byte) {
		x, y, z := marked(a), marked(b), marked(c)
		if max(len(x), len(y), len(z)) > most {
			return
		}
		one, err := layer.Between(x, y)
		wantTold(t, "Between", err, api.OK)
		two, err := layer.Between(y, z)
		wantTold(t, "Between", err, api.OK)
		want, err := layer.Between(x, z)
		wantTold(t, "Between", err, api.OK)
		got, err := layer.Then(one, two)
		wantLayer(t, "Then", got, err, want)
		wantSameEnd(t, x, one, two, got)
		back, err := layer.Turn(got)
		wantTold(t, "Turn", err, api.OK)
		start, err := layer.Apply(z, back)
		wantSet(t, "Apply", start, err, x)
	})
}

// marked is a set by its numbers, in any order.
func marked(numbers []byte) []api.Triple {
	var l []api.Triple
	for n, x := range span(0, 256) {
		if slices.Contains(numbers, byte(n)) {
			l = append(l, x)
		}
	}
	return l
}
