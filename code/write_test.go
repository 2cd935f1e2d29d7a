package code_test

import (
	"slices"
	"strings"
	"testing"
	"unsafe"

	"strataweb/api"
	"strataweb/code"
)

// right is a term, and its bytes.
type right struct {
	t api.Term
	b string
}

func rights() []right {
	full := strings.Repeat("a", api.MaxText)
	return []right{
		{named("a"), "\x01\x01a"},
		{named("ex:a/b.c0"), "\x01\x09ex:a/b.c0"},
		{named(full), "\x01\x18" + full},
		{anon("a"), "\x02\x01a"},
		{anon("0b"), "\x02\x020b"},
		{anon(full), "\x02\x18" + full},
		{text("", ""), "\x03\x00"},
		{text("a b", ""), "\x03\x03a b"},
		{text(`"\`, ""), "\x03\x02\"\\"},
		{text(" ~", ""), "\x03\x02 ~"},
		{text(full, ""), "\x03\x18" + full},
		{text("", "en"), "\x07en\x00"},
		{text("good day", "en"), "\x07en\x08good day"},
		{text("za", "az"), "\x07az\x02za"},
		{text(full, "de"), "\x07de\x18" + full},
	}
}

func TestTerm(t *testing.T) {
	for _, x := range rights() {
		got, err := code.Term(x.t)
		wantBytes(t, x.t, got, err, x.b)
		wantTerm(t, x.b, x.t, api.OK)
	}
}

func TestTermFaults(t *testing.T) {
	long := strings.Repeat("a", api.MaxText+1)
	for _, c := range []struct {
		t    api.Term
		want api.Errno
	}{
		{api.Term{}, api.ErrRange},
		{api.Term{Kind: 4, S: "a"}, api.ErrRange},
		{api.Term{Kind: 7, S: "a", Lang: "en"}, api.ErrRange},
		{api.Term{Kind: -1, S: "a"}, api.ErrRange},
		{api.Term{Kind: 257, S: "a"}, api.ErrRange},
		{api.Term{Kind: 4, S: long, Lang: "e"}, api.ErrRange},
		{named(long), api.ErrFull},
		{anon(long), api.ErrFull},
		{text(long, "en"), api.ErrFull},
		{text(strings.Repeat("a", 256), ""), api.ErrFull},
		{text(strings.Repeat("a", 257), ""), api.ErrFull},
		{text(long, "e"), api.ErrFull},
		{named(""), api.ErrSyntax},
		{named("A"), api.ErrSyntax},
		{named("0"), api.ErrSyntax},
		{anon(""), api.ErrSyntax},
		{anon("a."), api.ErrSyntax},
		{text("\x1f", ""), api.ErrSyntax},
		{text("a", "e"), api.ErrSyntax},
		{text("a", "EN"), api.ErrSyntax},
		{text("a", "eng"), api.ErrSyntax},
		{api.Term{Kind: api.Name, S: "a", Lang: "en"}, api.ErrSyntax},
		{api.Term{Kind: api.Anon, S: "a", Lang: "en"}, api.ErrSyntax},
	} {
		got, err := code.Term(c.t)
		wantNoBytes(t, c.t, got, err, c.want)
	}
}

func TestSet(t *testing.T) {
	for _, c := range []struct {
		l    []api.Triple
		want string
	}{
		{nil, "\x00\x00"},
		{[]api.Triple{}, "\x00\x00"},
		{list("abc"), "\x00\x01" + words("abc")},
		{list("aaa", "aab", "bcd"), "\x00\x03" + words("aaa", "aab", "bcd")},
		{[]api.Triple{said(anon("1"), named("p"), text("good day", "en"))}, "\x00\x01\x02\x011\x01\x01p\x07en\x08good day"},
		{[]api.Triple{said(anon("1"), named("p"), text("", ""))}, "\x00\x01\x02\x011\x01\x01p\x03\x00"},
	} {
		got, err := code.Set(c.l)
		wantBytes(t, c.l, got, err, c.want)
		wantSet(t, c.want, c.l, api.OK)
	}
}

func TestSetMost(t *testing.T) {
	for _, n := range []int{most - 1, most} {
		l := span(0, n)
		want := "\x00" + string([]byte{byte(n)})
		for _, x := range l {
			want += "\x01\x01a\x01\x01p\x01\x05" + x.O.S
		}
		got, err := code.Set(l)
		wantBytes(t, n, got, err, want)
		wantSet(t, want, l, api.OK)
	}
}

func TestSetFaults(t *testing.T) {
	for _, x := range faults() {
		got, err := code.Set(x.l)
		wantNoBytes(t, x, got, err, x.want)
	}
}

func TestLayer(t *testing.T) {
	for _, c := range []struct {
		l    api.Layer
		want string
	}{
		{api.Layer{}, "\x00\x00\x00\x00"},
		{of([]api.Triple{}, []api.Triple{}), "\x00\x00\x00\x00"},
		{of(list("abc"), nil), "\x00\x01" + words("abc") + "\x00\x00"},
		{of(nil, list("abc")), "\x00\x00\x00\x01" + words("abc")},
		{of(list("bbb"), list("aaa", "ccc")), "\x00\x01" + words("bbb") + "\x00\x02" + words("aaa", "ccc")},
	} {
		got, err := code.Layer(c.l)
		wantBytes(t, c.l, got, err, c.want)
		wantLayer(t, c.want, c.l, api.OK)
	}
}

func TestLayerMost(t *testing.T) {
	l := of(span(0, most), span(most, 2*most))
	add, err := code.Set(l.Add)
	wantTold(t, "Add", err, api.OK)
	take, err := code.Set(l.Take)
	wantTold(t, "Take", err, api.OK)
	got, err := code.Layer(l)
	wantBytes(t, "Layer", got, err, add+take)
	wantLayer(t, got, l, api.OK)
}

// What is wrong with Add is told ahead of what is wrong with Take, and that ahead of what is in both.
func TestLayerFaults(t *testing.T) {
	for _, l := range []api.Layer{
		of(list("abc"), list("abc")),
		of(list("aaa", "abc", "zzz"), list("aab", "abc")),
		of(span(0, most), span(most-1, 2*most-1)),
	} {
		got, err := code.Layer(l)
		wantNoBytes(t, l, got, err, api.ErrClash)
	}
	for _, x := range faults() {
		for _, s := range [][]api.Triple{nil, list("aaa"), list("zzz"), span(0, most)} {
			got, err := code.Layer(of(x.l, s))
			wantNoBytes(t, x, got, err, x.want)
			got, err = code.Layer(of(s, x.l))
			wantNoBytes(t, x, got, err, x.want)
		}
		for _, y := range faults() {
			got, err := code.Layer(of(x.l, y.l))
			wantNoBytes(t, x, got, err, x.want)
		}
	}
}

// What is written is read as it was: of all small sets and layers.
func TestThereAndBack(t *testing.T) {
	all := universe()
	seen := map[string]int{}
	for add := range 1 << len(all) {
		s, err := code.Set(picked(all, add))
		wantTold(t, add, err, api.OK)
		wantSet(t, s, picked(all, add), api.OK)
		for take := range 1 << len(all) {
			l := of(picked(all, add), picked(all, take))
			b, err := code.Layer(l)
			if add&take != 0 {
				wantNoBytes(t, l, b, err, api.ErrClash)
				continue
			}
			wantTold(t, l, err, api.OK)
			wantLayer(t, b, l, api.OK)
			if n := add<<len(all) | take; seen[b] != 0 && seen[b] != n {
				t.Errorf("%q is written of two layers", b)
			} else {
				seen[b] = n
			}
		}
	}
}

// What was handed in is not written into, and what lies behind a list's length is not looked at.
func TestNothingBehindTheLength(t *testing.T) {
	add, take := list("bbb", "ccc", "aaa"), list("aaa", "ddd", "bbb")
	for n := range 3 {
		got, err := code.Set(add[:n])
		wantBytes(t, n, got, err, "\x00"+string([]byte{byte(n)})+words("bbb", "ccc")[:9*n])
		got, err = code.Layer(of(add[:n], take[:n]))
		want := "\x00" + string([]byte{byte(n)}) + words("bbb", "ccc")[:9*n] + "\x00" + string([]byte{byte(n)}) + words("aaa", "ddd")[:9*n]
		wantBytes(t, n, got, err, want)
	}
	if !slices.Equal(slices.Concat(add, take), list("bbb", "ccc", "aaa", "aaa", "ddd", "bbb")) {
		t.Errorf("written into: %v, %v", add, take)
	}
}

// inside tells whether a text is a piece of another one's memory.
func inside(s, whole string) bool {
	first := uintptr(unsafe.Pointer(unsafe.StringData(whole)))
	at := uintptr(unsafe.Pointer(unsafe.StringData(s)))
	return s != "" && at >= first && at < first+uintptr(len(whole))
}

// What comes out is fresh memory: no term keeps the bytes alive that it was read of.
func TestSharesNothing(t *testing.T) {
	x := said(named("aaaa"), named("bbbb"), text("cccc", "en"))
	y := said(anon("aaaa"), named("bbbb"), anon("cccc"))
	b, err := code.Layer(of([]api.Triple{x}, []api.Triple{y}))
	wantTold(t, "Layer", err, api.OK)
	l, err := code.ReadLayer(b)
	wantTold(t, b, err, api.OK)
	half, err := code.Set([]api.Triple{x})
	wantTold(t, "Set", err, api.OK)
	s, err := code.ReadSet(half)
	wantTold(t, half, err, api.OK)
	end, err := code.Term(x.O)
	wantTold(t, "Term", err, api.OK)
	o, err := code.ReadTerm(end)
	wantTold(t, end, err, api.OK)
	for _, k := range slices.Concat(l.Add, l.Take, s, []api.Triple{{O: o}}) {
		for _, piece := range []string{k.S.S, k.P.S, k.O.S, k.O.Lang} {
			if inside(piece, b) || inside(piece, half) || inside(piece, end) {
				t.Errorf("%v: %q is memory that was handed in", k, piece)
			}
		}
	}
}

// No two lists share any memory: neither those of one answer nor those of two.
func TestAnswersAreTheCallers(t *testing.T) {
	b := "\x00\x02" + words("aaa", "bbb") + "\x00\x02" + words("ccc", "ddd")
	l, err := code.ReadLayer(b)
	wantTold(t, b, err, api.OK)
	add := append(l.Add, list("xxx", "yyy")...)
	for i := range add[:cap(add)] {
		add[:cap(add)][i] = api.Triple{}
	}
	for i := range l.Add {
		l.Add[i] = api.Triple{}
	}
	if !slices.Equal(l.Take, list("ccc", "ddd")) {
		t.Errorf("Take is %v", l.Take)
	}
	wantLayer(t, b, of(list("aaa", "bbb"), list("ccc", "ddd")), api.OK)
}

func FuzzTerm(f *testing.F) {
	f.Add(api.Name, "a", "")
	f.Add(api.Anon, "0", "")
	f.Add(api.Text, "good day", "en")
	f.Add(7, "", "en")
	f.Add(api.Name, "a", "en")
	f.Fuzz(func(t *testing.T, kind int, s, lang string) {
		x := api.Term{Kind: kind, S: s, Lang: lang}
		b, err := code.Term(x)
		if err != nil {
			if b != "" {
				t.Errorf("Term(%v) = %q, %v", x, b, err)
			}
			return
		}
		wantTerm(t, b, x, api.OK)
	})
}
