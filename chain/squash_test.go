package chain_test

import (
	"math"
	"slices"
	"testing"

	"strataweb/api"
	"strataweb/chain"
)

// squashed are the graphs that are left when the layers from the one to the other are one.
func squashed(graphs [][]api.Triple, from, to int) [][]api.Triple {
	return slices.Concat(graphs[:from], graphs[to:])
}

// All that may be squashed, once: what stood between is gone, and the one layer does what they did.
func TestSquash(t *testing.T) {
	for from := 1; from < len(days()); from++ {
		for to := from; to < len(days()); to++ {
			c := built(t, days()...)
			wantTold(t, []int{from, to}, c.Squash(from, to), api.OK)
			wantLayers(t, c, squashed(days(), from, to))
		}
	}
}

// Of graphs of two triples all ways of three steps, and all that may be squashed of them, twice.
func TestSquashAllSmall(t *testing.T) {
	all := universe()[1:3]
	n := 1 << len(all)
	for bits := range n * n * n * n {
		graphs := [][]api.Triple{picked(all, bits%n), picked(all, bits/n%n), picked(all, bits/n/n%n), picked(all, bits/n/n/n)}
		for from := 1; from <= 3; from++ {
			for to := from; to <= 3; to++ {
				c := built(t, graphs...)
				wantTold(t, bits, c.Squash(from, to), api.OK)
				left := squashed(graphs, from, to)
				wantHeld(t, c, left)
				wantTold(t, bits, c.Squash(1, c.Len()), api.OK)
				wantLayers(t, c, squashed(left, 1, len(left)-1))
			}
		}
	}
}

func TestSquashRange(t *testing.T) {
	for n := range days() {
		graphs := days()[:n+1]
		c := built(t, graphs...)
		for from := -2; from <= n+2; from++ {
			for to := -2; to <= n+2; to++ {
				if from < 1 || to > n || from > to {
					wantTold(t, []int{n, from, to}, c.Squash(from, to), api.ErrRange)
				}
			}
		}
		for _, at := range []int{math.MinInt, math.MinInt + 1, math.MaxInt - 1, math.MaxInt} {
			wantTold(t, at, c.Squash(at, n), api.ErrRange)
			wantTold(t, at, c.Squash(1, at), api.ErrRange)
			wantTold(t, at, c.Squash(at, at), api.ErrRange)
			wantTold(t, at, c.Squash(at, -at), api.ErrRange)
		}
		wantLayers(t, c, graphs)
	}
}

// Whatever full graphs there are between, what comes out goes from one graph to one.
func TestSquashMost(t *testing.T) {
	graphs := [][]api.Triple{span(0, most), span(most, 2*most), span(2*most, 3*most), nil, span(1, most+1), span(0, most)}
	for from := 1; from < len(graphs); from++ {
		for to := from; to < len(graphs); to++ {
			c := built(t, graphs...)
			wantTold(t, []int{from, to}, c.Squash(from, to), api.OK)
			wantLayers(t, c, squashed(graphs, from, to))
		}
	}
}

// Layers that are one make room for others.
func TestSquashMakesRoom(t *testing.T) {
	graphs := filled()
	c := built(t, graphs...)
	wantTold(t, "Squash", c.Squash(3, 3), api.OK)
	wantTold(t, "Push", c.Push(api.Layer{}), api.ErrFull)
	wantTold(t, "Squash", c.Squash(1, api.MaxLayers+1), api.ErrRange)
	wantTold(t, "Squash", c.Squash(11, 30), api.OK)
	left := squashed(graphs, 11, 30)
	wantHeld(t, c, left)
	for n := range 19 {
		next := span(n, n+2)
		wantTold(t, n, c.Push(step(left[len(left)-1], next)), api.OK)
		left = append(left, next)
	}
	wantTold(t, "Push", c.Push(api.Layer{}), api.ErrFull)
	wantTold(t, "Squash", c.Squash(1, 30), api.OK)
	wantLayers(t, c, squashed(left, 1, 30))
}

// A chain goes on where it stood: what comes behind a Squash knows nothing of it.
func TestSquashThenPushAndPop(t *testing.T) {
	c := built(t, list("aaa"), nil, list("aaa"), list("aaa", "bbb"))
	wantTold(t, "Squash", c.Squash(1, 2), api.OK)
	wantPopped(t, c, of(list("bbb"), nil))
	wantPopped(t, c, api.Layer{})
	wantNoPop(t, c)
	wantTold(t, "Squash", c.Squash(1, 1), api.ErrRange)
	wantTold(t, "Push", c.Push(of(list("ccc"), list("aaa"))), api.OK)
	wantTold(t, "Squash", c.Squash(1, 1), api.OK)
	wantLayers(t, c, [][]api.Triple{list("aaa"), list("ccc")})
}

// FuzzCalls holds a chain against the list of its graphs.
func FuzzCalls(f *testing.F) {
	f.Add([]byte{})
	f.Add([]byte{0, 7, 0, 0, 5, 0, 0, 9, 0, 3, 1, 3, 2, 0, 0, 2, 0, 0})
	f.Add([]byte{0, 1, 0, 1, 2, 3, 1, 8, 1, 3, 1, 1, 3, 2, 1, 2, 1, 1, 0, 255, 0})
	f.Fuzz(func(t *testing.T, calls []byte) {
		all := universe()
		graphs := [][]api.Triple{all[1:3]}
		// Enough to fill a chain some times over.
		calls = calls[:min(len(calls), 600)]
		c := built(t, graphs...)
		for ; len(calls) >= 3; calls = calls[3:] {
			x, y := int(calls[1]), int(calls[2])
			switch calls[0] % 4 {
			case 0:
				graphs = pushNext(t, c, graphs, step(graphs[len(graphs)-1], picked(all, x)))
			case 1:
				graphs = pushNext(t, c, graphs, of(picked(all, x), picked(all, y)))
			case 2:
				graphs = popNext(t, c, graphs)
			case 3:
				graphs = squashNext(t, c, graphs, x%40-2, y%40-2)
			}
		}
		wantLayers(t, c, graphs)
	})
}

// pushNext pushes a layer, and tells which graphs there are then.
func pushNext(t *testing.T, c *chain.Chain, graphs [][]api.Triple, l api.Layer) [][]api.Triple {
	t.Helper()
	top := graphs[len(graphs)-1]
	err := c.Push(l)
	switch {
	case len(graphs) > api.MaxLayers:
		wantTold(t, l, err, api.ErrFull)
		return graphs
	case len(less(l.Add, l.Take)) < len(l.Add), len(less(l.Add, top)) < len(l.Add):
		wantTold(t, l, err, api.ErrClash)
		return graphs
	case len(less(l.Take, top)) > 0:
		wantTold(t, l, err, api.ErrNone)
		return graphs
	}
	wantTold(t, l, err, api.OK)
	next := less(universe(), less(universe(), slices.Concat(less(top, l.Take), l.Add)))
	return append(slices.Clip(graphs), next)
}

// popNext pops a layer, and tells which graphs there are then.
func popNext(t *testing.T, c *chain.Chain, graphs [][]api.Triple) [][]api.Triple {
	t.Helper()
	top := len(graphs) - 1
	if top == 0 {
		wantNoPop(t, c)
		return graphs
	}
	wantPopped(t, c, step(graphs[top-1], graphs[top]))
	return graphs[:top]
}

// squashNext squashes layers, and tells which graphs there are then.
func squashNext(t *testing.T, c *chain.Chain, graphs [][]api.Triple, from, to int) [][]api.Triple {
	t.Helper()
	err := c.Squash(from, to)
	if from < 1 || to >= len(graphs) || from > to {
		wantTold(t, []int{from, to}, err, api.ErrRange)
		return graphs
	}
	wantTold(t, []int{from, to}, err, api.OK)
	return squashed(graphs, from, to)
}
