package patch_test

import (
	"slices"
	"testing"

	"strataweb/api"
	"strataweb/layer"
	"strataweb/patch"
	"strataweb/plain"
)

func TestApply(t *testing.T) {
	for _, c := range []struct {
		set  []api.Triple
		text string
		want []api.Triple
	}{
		{},
		{[]api.Triple{}, "", nil},
		{list("abc"), "", list("abc")},
		{nil, "+ a b c\n", list("abc")},
		{list("abc"), "- a b c\n", nil},
		{list("abc"), "- a b c\n+ a b d\n", list("abd")},
		{list("bbb", "ddd", "fff"), "- d d d\n+ a a a\n+ c c c\n+ g g g\n", list("aaa", "bbb", "ccc", "fff", "ggg")},
		{nil, lines("+", 0, most), span(0, most)},
		{span(0, most), lines("-", 0, most), nil},
		{span(0, most), lines("-", 0, most) + lines("+", most, 2*most), span(most, 2*most)},
	} {
		got, line, err := patch.Apply(c.set, c.text)
		wantLine(t, c.text, line, err, 0, api.OK)
		wantSet(t, c.text, got, c.want)
	}
}

// What the set makes wrong is told at the number of lines, in chapter 6's order.
func TestApplyTellsWhatLayerTells(t *testing.T) {
	type row struct {
		set  []api.Triple
		text string
		line int
		want api.Errno
	}
	rows := []row{
		{list("abc"), "+ a b c\n", 1, api.ErrClash},
		{list("abc"), "- z z z\n+ a b c\n", 2, api.ErrClash},
		{list("abc", "abd"), "- a b d\n+ a a a\n+ a b c\n+ z z z\n", 4, api.ErrClash},
		{span(0, most), lines("+", most-1, most+5), 6, api.ErrClash},
		{nil, "- a b c\n", 1, api.ErrNone},
		{list("abc"), "- a b b\n- a b c\n+ a b d\n", 3, api.ErrNone},
		{span(0, most), "- z z z\n" + lines("+", most, most+5), 6, api.ErrNone},
		{span(0, most), lines("+", most, most+1), 1, api.ErrFull},
		{span(0, 1), lines("+", 1, most+1), most, api.ErrFull},
		{span(0, most), lines("-", 1, most) + lines("+", most, 2*most), 2*most - 1, api.ErrFull},
	}
	for _, x := range faults() {
		rows = append(rows,
			row{x.l, "", 0, x.want},
			row{x.l, "+ a b c\n", 1, x.want},
			row{x.l, "- a a a\n- z z z\n+ a a b\n", 3, x.want},
			row{x.l, lines("-", 0, most) + lines("+", most, 2*most), 2 * most, x.want},
		)
	}
	for _, c := range rows {
		got, line, err := patch.Apply(c.set, c.text)
		wantLine(t, c.text, line, err, c.line, c.want)
		wantSet(t, c.text, got, nil)
	}
}

// What is wrong with the text is told ahead of what is wrong with the set.
func TestApplyTellsTheTextFirst(t *testing.T) {
	for _, x := range faults() {
		for _, w := range []wrong{
			{"\n", 0, api.ErrSyntax},
			{"+ a a a\n- b b b\n", 1, api.ErrSyntax},
			{"- a a a\n- \"a\" a a\n", 1, api.ErrShape},
			{"- b b b\n+ a a b\n+ a a a\n", 2, api.ErrState},
			{"- a a a\n+ a a a\n", 1, api.ErrClash},
			{lines("+", 0, most+1), most, api.ErrFull},
		} {
			got, line, err := patch.Apply(x.l, w.text)
			wantLine(t, w.text, line, err, w.line, w.want)
			wantSet(t, w.text, got, nil)
		}
	}
}

// There and back: the text of what is between two sets makes of the one the other, and turned the one again.
func TestApplyThereAndBack(t *testing.T) {
	all := universe()
	for a := range 1 << len(all) {
		for b := range 1 << len(all) {
			from, to := picked(all, a), picked(all, b)
			l, err := layer.Between(from, to)
			wantTold(t, "Between", err, api.OK)
			there, err := patch.Print(l)
			wantTold(t, l, err, api.OK)
			got, line, err := patch.Apply(from, there)
			wantLine(t, there, line, err, 0, api.OK)
			wantSet(t, there, got, to)
			turned, err := layer.Turn(l)
			wantTold(t, l, err, api.OK)
			back, err := patch.Print(turned)
			wantTold(t, turned, err, api.OK)
			got, line, err = patch.Apply(to, back)
			wantLine(t, back, line, err, 0, api.OK)
			wantSet(t, back, got, from)
		}
	}
}

// On each set a text does what its layer does.
func TestApplyAllSmall(t *testing.T) {
	all := universe()
	for s, l := range shows(t, all) {
		for bits := range 1 << len(all) {
			set := picked(all, bits)
			want, wrong := layer.Apply(set, l)
			at := 0
			if wrong != nil {
				at = len(l.Add) + len(l.Take)
			}
			got, line, err := patch.Apply(set, s)
			wantLine(t, s, line, err, at, plain.Told(wrong))
			wantSet(t, s, got, want)
		}
	}
}

// Apply neither writes into the set it is given, nor answers memory of it, nor reads behind its length.
func TestApplyMemory(t *testing.T) {
	set := list("bbb", "ddd", "aaa", "zzz")
	kept := slices.Clone(set)
	for _, s := range []string{"", "+ a a a\n", "- b b b\n", "- d d d\n+ c c c\n+ e e e\n", "+ b b b\n", "- c c c\n", "\n"} {
		got, _, _ := patch.Apply(set[:2], s)
		wipe(got)
		wantSet(t, s, set, kept)
	}
}
