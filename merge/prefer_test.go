package merge_test

import (
	"slices"
	"testing"

	"strataweb/api"
	"strataweb/merge"
)

// wantPreferred fails unless Prefer answers this set.
func wantPreferred(t *testing.T, base, a, b []api.Triple, first bool, want []api.Triple) {
	t.Helper()
	got, err := merge.Prefer(base, a, b, first)
	wantTold(t, first, err, api.OK)
	wantSet(t, first, got, want)
}

// wantNotPreferred fails unless Prefer tells this error, and nothing else.
func wantNotPreferred(t *testing.T, base, a, b []api.Triple, first bool, want api.Errno) {
	t.Helper()
	got, err := merge.Prefer(base, a, b, first)
	wantTold(t, first, err, want)
	wantSet(t, first, got, nil)
}

func TestPrefer(t *testing.T) {
	for _, c := range clashes() {
		wantPreferred(t, c.base, c.a, c.b, true, c.asA)
		wantPreferred(t, c.base, c.a, c.b, false, c.asB)
		wantPreferred(t, c.base, c.b, c.a, true, c.asB)
		wantPreferred(t, c.base, c.b, c.a, false, c.asA)
	}
}

// A pair that clashes is taken whole from the one side, and what the other one did elsewhere stays.
func TestPreferMost(t *testing.T) {
	full := span("bp", 0, most)
	wantPreferred(t, nil, full, span("bp", most, 2*most), true, full)
	wantPreferred(t, nil, full, span("bp", most, 2*most), false, span("bp", most, 2*most))
	wantPreferred(t, full, nil, span("bp", 1, most), true, nil)
	wantPreferred(t, full, nil, span("bp", 1, most), false, span("bp", 1, most))
	wantPreferred(t, wide("o", 0, most), wide("u", 0, most), wide("w", 0, most), true, wide("u", 0, most))
	wantPreferred(t, wide("o", 0, most), wide("u", 0, most), wide("w", 0, most), false, wide("w", 0, most))
}

// Whether there are too many hangs on which side is preferred.
func TestPreferFull(t *testing.T) {
	great := span("bp", 0, most)
	small := slices.Concat(list("aaa"), span("bp", 1, 2))
	wantNotPreferred(t, nil, great, small, true, api.ErrFull)
	wantPreferred(t, nil, great, small, false, small)
	wantPreferred(t, nil, small, great, true, small)
	wantNotPreferred(t, nil, small, great, false, api.ErrFull)
	// At the edge: with one less it goes.
	wantPreferred(t, nil, great[1:], small, true, slices.Concat(list("aaa"), great[1:]))
}

// All sides of all bases of a few triples, held against what the chapter says pair by pair.
func TestPreferAllSmall(t *testing.T) {
	all, groups := universe()
	for base := range 1 << len(all) {
		for a := range 1 << len(all) {
			for b := range 1 << len(all) {
				for _, first := range []bool{true, false} {
					want, _ := merged(groups, base, a, b, first)
					wantPreferred(t, picked(all, base), picked(all, a), picked(all, b), first, picked(all, want))
				}
			}
		}
	}
}

func TestPreferFaults(t *testing.T) {
	eachFault(func(base, a, b []api.Triple, want api.Errno) {
		wantNotPreferred(t, base, a, b, true, want)
		wantNotPreferred(t, base, a, b, false, want)
	})
}

// wantMade fails unless a call answered this set, or told that it has too many.
func wantMade(t *testing.T, got []api.Triple, err error, want []api.Triple) {
	t.Helper()
	if len(want) > most {
		wantTold(t, "Full", err, api.ErrFull)
		wantSet(t, "Full", got, nil)
		return
	}
	wantTold(t, "Made", err, api.OK)
	wantSet(t, "Made", got, want)
}

// Each byte tells of a pair which of its two triples are in the base, in a and in b.
func FuzzMerge(f *testing.F) {
	f.Add([]byte{})
	f.Add([]byte{1, 2, 3, 0b010100, 0b101001, 0b011011, 63})
	f.Add(slices.Repeat([]byte{0b110000}, 150))
	f.Add(append(slices.Repeat([]byte{0b001100}, 99), 0b110000, 0b110000, 0b011000))
	f.Fuzz(func(t *testing.T, states []byte) {
		var base, a, b, asA, asB []api.Triple
		var which []api.Clash
		for n, state := range states[:min(len(states), 400)] {
			both := slices.Concat(wide("o", n, n+1), wide("u", n, n+1))
			g := []group{{api.Clash{S: both[0].S, P: both[0].P}, 3}}
			x, y, z := int(state)&3, int(state)>>2&3, int(state)>>4&3
			base, a, b = append(base, picked(both, x)...), append(a, picked(both, y)...), append(b, picked(both, z)...)
			inA, clashes := merged(g, x, y, z, true)
			inB, _ := merged(g, x, y, z, false)
			asA, asB, which = append(asA, picked(both, inA)...), append(asB, picked(both, inB)...), append(which, clashes...)
		}
		if max(len(base), len(a), len(b)) > most {
			wantNoMerge(t, base, a, b, api.ErrFull)
			return
		}
		got, err := merge.Prefer(base, a, b, true)
		wantMade(t, got, err, asA)
		got, err = merge.Prefer(base, a, b, false)
		wantMade(t, got, err, asB)
		if len(which) > 0 {
			wantSides(t, base, a, b, which)
			return
		}
		got, clashes, err := merge.Merge(base, a, b)
		wantMade(t, got, err, asA)
		wantPairs(t, "Merge", clashes, nil)
	})
}
