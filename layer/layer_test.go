package layer_test

import (
	"slices"
	"testing"

	"strataweb/api"
	"strataweb/layer"
)

const most = api.MaxSet

func TestCheck(t *testing.T) {
	for _, l := range []api.Layer{
		{},
		of([]api.Triple{}, []api.Triple{}),
		of(list("abc"), nil),
		of(nil, list("abc")),
		of(list("abc"), list("abd")),
		of(list("abd"), list("abc")),
		of(span(0, most), span(most, 2*most)),
		of(universe()[1:2], universe()[2:3]),
	} {
		wantTold(t, l, layer.Check(l), api.OK)
	}
	for _, x := range ills() {
		wantTold(t, x.l, layer.Check(x.l), x.want)
	}
}

func TestApply(t *testing.T) {
	for _, c := range []struct {
		set  []api.Triple
		l    api.Layer
		want []api.Triple
	}{
		{},
		{set: []api.Triple{}, l: of([]api.Triple{}, []api.Triple{})},
		{list("abc"), of(nil, nil), list("abc")},
		{nil, of(list("abc"), nil), list("abc")},
		{list("abc"), of(nil, list("abc")), nil},
		{list("abc"), of(list("abd"), list("abc")), list("abd")},
		{list("bbb", "ddd", "fff"), of(list("aaa", "ccc", "ggg"), list("ddd")), list("aaa", "bbb", "ccc", "fff", "ggg")},
	} {
		got, err := layer.Apply(c.set, c.l)
		wantSet(t, c, got, err, c.want)
	}
}

func TestApplyAllSmall(t *testing.T) {
	all := universe()
	for s := range 1 << len(all) {
		for add := range 1 << len(all) {
			for take := range 1 << len(all) {
				got, err := layer.Apply(picked(all, s), change(all, add, take))
				what := []int{s, add, take}
				switch {
				case add&take != 0 || add&s != 0:
					wantNoSet(t, what, got, err, api.ErrClash)
				case take&^s != 0:
					wantNoSet(t, what, got, err, api.ErrNone)
				default:
					wantSet(t, what, got, err, picked(all, s&^take|add))
				}
			}
		}
	}
}

// It is the set that comes out that may not be too great: a full one may give some up for others.
func TestApplyMost(t *testing.T) {
	for _, c := range []struct {
		set  []api.Triple
		l    api.Layer
		want []api.Triple
	}{
		{nil, of(span(0, most), nil), span(0, most)},
		{span(0, most), of(nil, nil), span(0, most)},
		{span(0, most), of(nil, span(0, most)), nil},
		{span(1, most), of(span(0, 1), nil), span(0, most)},
		{span(0, most), of(span(most, most+1), span(0, 1)), span(1, most+1)},
		{span(0, most), of(span(most, 2*most), span(0, most)), span(most, 2*most)},
	} {
		got, err := layer.Apply(c.set, c.l)
		wantSet(t, "Apply", got, err, c.want)
	}
	for _, c := range []struct {
		set []api.Triple
		l   api.Layer
	}{
		{span(0, most), of(span(most, most+1), nil)},
		{span(0, 1), of(span(1, most+1), nil)},
		{span(0, most), of(span(most, most+2), span(0, 1))},
		{span(0, most), of(span(most, 2*most), span(1, most))},
		{span(0, most), of(span(most, 2*most), nil)},
	} {
		got, err := layer.Apply(c.set, c.l)
		wantNoSet(t, "Apply", got, err, api.ErrFull)
	}
}

// The set comes ahead of the layer, and what is wrong with them ahead of how they go together.
func TestApplyFaults(t *testing.T) {
	for _, x := range faults() {
		got, err := layer.Apply(x.l, of(nil, nil))
		wantNoSet(t, x, got, err, x.want)
		got, err = layer.Apply(x.l, of(x.l[:1], list("zzy")))
		wantNoSet(t, x, got, err, x.want)
		for _, y := range ills() {
			got, err = layer.Apply(x.l, y.l)
			wantNoSet(t, x, got, err, x.want)
		}
	}
	for _, y := range ills() {
		for _, s := range [][]api.Triple{nil, list("abc"), span(0, most)} {
			got, err := layer.Apply(s, y.l)
			wantNoSet(t, y, got, err, y.want)
		}
	}
}

func TestApplyTellsFirst(t *testing.T) {
	full := span(0, most)
	for _, c := range []struct {
		set  []api.Triple
		l    api.Layer
		want api.Errno
	}{
		// One of Add is there, one of Take is not, and there would be too many.
		{full, of(span(most-1, most+5), list("zzz")), api.ErrClash},
		{full, of(span(most-1, most+5), nil), api.ErrClash},
		{list("abc"), of(list("abc"), list("zzz")), api.ErrClash},
		{full, of(span(most, most+5), list("zzz")), api.ErrNone},
		{full, of(span(most, most+5), span(most-1, most)), api.ErrFull},
		{list("abc"), of(nil, list("abd")), api.ErrNone},
		{list("abc"), of(nil, list("abb", "abc")), api.ErrNone},
		{nil, of(nil, list("abc")), api.ErrNone},
	} {
		got, err := layer.Apply(c.set, c.l)
		wantNoSet(t, c.want, got, err, c.want)
	}
}

func TestBetween(t *testing.T) {
	for _, c := range []struct {
		a, b []api.Triple
		want api.Layer
	}{
		{},
		{a: []api.Triple{}, b: []api.Triple{}},
		{nil, list("abc"), of(list("abc"), nil)},
		{list("abc"), nil, of(nil, list("abc"))},
		{list("abc"), list("abc"), of(nil, nil)},
		{list("aaa", "bbb", "ccc"), list("aab", "bbb", "ddd"), of(list("aab", "ddd"), list("aaa", "ccc"))},
		{span(0, most), span(most, 2*most), of(span(most, 2*most), span(0, most))},
		{span(0, most), span(1, most+1), of(span(most, most+1), span(0, 1))},
	} {
		got, err := layer.Between(c.a, c.b)
		wantLayer(t, c, got, err, c.want)
	}
}

// There and back: what has changed makes of the one the other, and turned the one again.
func TestBetweenAllSmall(t *testing.T) {
	all := universe()
	for a := range 1 << len(all) {
		for b := range 1 << len(all) {
			l, err := layer.Between(picked(all, a), picked(all, b))
			what := []int{a, b}
			wantLayer(t, what, l, err, change(all, b&^a, a&^b))
			there, err := layer.Apply(picked(all, a), l)
			wantSet(t, what, there, err, picked(all, b))
			back, err := layer.Turn(l)
			wantLayer(t, what, back, err, change(all, a&^b, b&^a))
			here, err := layer.Apply(there, back)
			wantSet(t, what, here, err, picked(all, a))
		}
	}
}

func TestBetweenFaults(t *testing.T) {
	for _, x := range faults() {
		for _, s := range [][]api.Triple{nil, list("abc"), span(0, most)} {
			got, err := layer.Between(x.l, s)
			wantNoLayer(t, x, got, err, x.want)
			got, err = layer.Between(s, x.l)
			wantNoLayer(t, x, got, err, x.want)
		}
		for _, y := range faults() {
			got, err := layer.Between(x.l, y.l)
			wantNoLayer(t, x, got, err, x.want)
		}
	}
}

func TestTurn(t *testing.T) {
	for _, c := range []struct{ l, want api.Layer }{
		{},
		{l: of([]api.Triple{}, []api.Triple{})},
		{of(list("abc"), nil), of(nil, list("abc"))},
		{of(nil, list("abc")), of(list("abc"), nil)},
		{of(list("aaa", "ccc"), list("bbb")), of(list("bbb"), list("aaa", "ccc"))},
		{of(span(0, most), span(most, 2*most)), of(span(most, 2*most), span(0, most))},
	} {
		got, err := layer.Turn(c.l)
		wantLayer(t, c, got, err, c.want)
	}
	for _, x := range ills() {
		got, err := layer.Turn(x.l)
		wantNoLayer(t, x, got, err, x.want)
	}
}

// No call writes into what it was given, or answers memory of it, or of another list that it answers.
func TestMemory(t *testing.T) {
	set := list("bbb", "ddd", "zzz", "aaa")
	a := of(list("aaa", "ccc", "zzz", "bbb"), list("bbb", "eee", "yyy", "aaa"))
	b := of(list("bbb", "ggg", "xxx", "aaa"), list("ccc", "fff", "www", "aaa"))
	lists := [][]api.Triple{set, a.Add, a.Take, b.Add, b.Take}
	var kept [][]api.Triple
	for _, l := range lists {
		kept = append(kept, slices.Clone(l))
	}
	for n := range 3 {
		// What lies behind the lengths is no part of the lists.
		s, x, y := set[:2], of(a.Add[:n], a.Take[:n/2]), of(b.Add[:n], b.Take[:n])
		applied, err := layer.Apply(s, x)
		wantTold(t, "Apply", err, api.OK)
		between, err := layer.Between(s, x.Add)
		wantTold(t, "Between", err, api.OK)
		turned, err := layer.Turn(x)
		wantTold(t, "Turn", err, api.OK)
		both, err := layer.Then(x, y)
		wantTold(t, "Then", err, api.OK)
		for i, got := range [][]api.Triple{applied, between.Add, between.Take, turned.Add, turned.Take, both.Add, both.Take} {
			wipe(got)
			for j, l := range lists {
				if !slices.Equal(l, kept[j]) {
					t.Fatalf("%d: answer %d reaches into list %d: %v", n, i, j, l)
				}
			}
		}
	}
}

// wipe writes on all of a list's memory.
func wipe(l []api.Triple) {
	l = l[:cap(l)]
	for i := range l {
		l[i] = api.Triple{}
	}
}

func TestListsOfAnAnswerShareNothing(t *testing.T) {
	a, b := list("aaa", "bbb"), list("bbb", "ccc")
	between, err := layer.Between(a, b)
	wantTold(t, "Between", err, api.OK)
	turned, err := layer.Turn(of(a, list("ccc")))
	wantTold(t, "Turn", err, api.OK)
	both, err := layer.Then(of(a, list("ccc")), of(list("eee"), list("fff")))
	wantTold(t, "Then", err, api.OK)
	for i, l := range []api.Layer{between, turned, both} {
		kept := slices.Clone(l.Take)
		_ = append(l.Add, list("www", "xxx", "yyy")...)
		wipe(l.Add)
		if !slices.Equal(l.Take, kept) {
			t.Errorf("answer %d: Take is %v, was %v", i, l.Take, kept)
		}
	}
}
