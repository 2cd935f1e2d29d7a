package patch_test

import (
	"slices"
	"testing"

	"strataweb/api"
	"strataweb/layer"
	"strataweb/patch"
	"strataweb/plain"
)

func TestPrint(t *testing.T) {
	for _, w := range writtens() {
		got, err := patch.Print(w.l)
		wantTold(t, w.text, err, api.OK)
		if got != w.text {
			t.Errorf("Print(%v) = %q, want %q", w.l, got, w.text)
		}
	}
	if got, err := patch.Print(of([]api.Triple{}, []api.Triple{})); got != "" || err != nil {
		t.Errorf("Print of an empty layer = %q, %v", got, err)
	}
}

// wantUnprinted fails unless Print tells this error, which is chapter 6's Check's, and nothing else.
func wantUnprinted(t *testing.T, l api.Layer, want api.Errno) {
	t.Helper()
	got, err := patch.Print(l)
	wantTold(t, l, err, want)
	if got != "" {
		t.Errorf("Print(%v) = %q, want none", l, got)
	}
	if check := plain.Told(layer.Check(l)); check != want {
		t.Errorf("Check(%v) told %v, want %v", l, check, want)
	}
}

// What is wrong with Add is told ahead of what is wrong with Take, though Take is written first.
func TestPrintTellsWhatCheckTells(t *testing.T) {
	wantUnprinted(t, of(list("abc"), list("abc")), api.ErrClash)
	wantUnprinted(t, of(list("aaa", "abc", "zzz"), list("aab", "abc")), api.ErrClash)
	wantUnprinted(t, of(span(0, most), span(most-1, 2*most-1)), api.ErrClash)
	for _, x := range faults() {
		wantUnprinted(t, of(x.l, nil), x.want)
		wantUnprinted(t, of(nil, x.l), x.want)
		wantUnprinted(t, of(x.l, list("zzz")), x.want)
		wantUnprinted(t, of(list("zzz"), x.l), x.want)
		for _, y := range faults() {
			wantUnprinted(t, of(x.l, y.l), x.want)
		}
	}
}

// Print neither writes into what it is given nor reads behind its length.
func TestPrintMemory(t *testing.T) {
	add, take := list("aaa", "ccc", "bbb"), list("bbb", "ddd", "aaa")
	keptAdd, keptTake := slices.Clone(add), slices.Clone(take)
	got, err := patch.Print(of(add[:2], take[:2]))
	wantTold(t, got, err, api.OK)
	if want := "- b b b\n- d d d\n+ a a a\n+ c c c\n"; got != want {
		t.Errorf("Print = %q, want %q", got, want)
	}
	wantSet(t, "add", add, keptAdd)
	wantSet(t, "take", take, keptTake)
}
