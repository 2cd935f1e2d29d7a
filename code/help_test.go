package code_test

import (
	"slices"
	"strconv"
	"strings"
	"testing"

	"strataweb/api"
	"strataweb/code"
	"strataweb/layer"
	"strataweb/plain"
	"strataweb/term"
	"strataweb/triple"
)

const most = api.MaxSet

// named, anon and text make terms; said makes a triple of them.
func named(s string) api.Term { return api.Term{Kind: api.Name, S: s} }

func anon(s string) api.Term { return api.Term{Kind: api.Anon, S: s} }

func text(s, lang string) api.Term { return api.Term{Kind: api.Text, S: s, Lang: lang} }

func said(s, p, o api.Term) api.Triple { return api.Triple{S: s, P: p, O: o} }

// list makes triples of Names, three bytes each.
func list(words ...string) []api.Triple {
	var l []api.Triple
	for _, w := range words {
		l = append(l, said(named(w[:1]), named(w[1:2]), named(w[2:3])))
	}
	return l
}

// span makes triples, rising, by numbers from one up to another one.
func span(from, to int) []api.Triple {
	var l []api.Triple
	for n := from; n < to; n++ {
		l = append(l, said(named("a"), named("p"), named("x"+strconv.Itoa(1000+n))))
	}
	return l
}

// of makes a layer.
func of(add, take []api.Triple) api.Layer { return api.Layer{Add: add, Take: take} }

// universe are triples, rising, that have terms of each kind, and are unlike their neighbours in one part alone.
func universe() []api.Triple {
	a := named("a")
	return []api.Triple{
		said(a, a, a),
		said(a, a, anon("a")),
		said(a, a, text("", "")),
		said(a, a, text("", "en")),
		said(a, named("b:/.0"), a),
		said(anon("0"), a, a),
	}
}

// picked are the triples whose bits are set.
func picked(l []api.Triple, bits int) []api.Triple {
	var out []api.Triple
	for i, t := range l {
		if bits>>i&1 == 1 {
			out = append(out, t)
		}
	}
	return out
}

// words are the bytes of triples of Names, three bytes each, without how many there are.
func words(all ...string) string {
	var out strings.Builder
	for _, w := range all {
		out.WriteString("\x01\x01" + w[:1] + "\x01\x01" + w[1:2] + "\x01\x01" + w[2:3])
	}
	return out.String()
}

// faulty is a list that is no set, and what Sorted tells of it.
type faulty struct {
	l    []api.Triple
	want api.Errno
}

// faults are lists of all faults that Sorted tells of.
func faults() []faulty {
	a := named("a")
	long := text(strings.Repeat("a", api.MaxText+1), "")
	return []faulty{
		{list("aaa", "aaa"), api.ErrState},
		{list("aab", "aaa"), api.ErrState},
		{append(span(0, most-1), list("aaa")...), api.ErrState},
		{span(0, most+1), api.ErrFull},
		{span(0, 256), api.ErrFull},
		{span(0, 300), api.ErrFull},
		{make([]api.Triple, most+1), api.ErrFull},
		{[]api.Triple{said(a, a, long)}, api.ErrFull},
		{[]api.Triple{{}}, api.ErrRange},
		{append(list("aaa"), said(a, a, api.Term{Kind: 4, S: "a"})), api.ErrRange},
		{[]api.Triple{said(a, named("A"), a)}, api.ErrSyntax},
		{[]api.Triple{said(a, a, text("a", "e"))}, api.ErrSyntax},
		{[]api.Triple{said(text("a", ""), a, a)}, api.ErrShape},
		{append(list("aaa"), said(a, anon("a"), a)), api.ErrShape},
		{append(list("bbb", "aaa"), api.Triple{}), api.ErrState},
		{append([]api.Triple{{}}, list("bbb", "aaa")...), api.ErrRange},
	}
}

// wantTold fails unless the error is just the one that is wanted, and nil where nothing is wrong.
func wantTold(t *testing.T, what any, err error, want api.Errno) {
	t.Helper()
	if got := plain.Told(err); got != want || (err == nil) != (want == api.OK) {
		t.Errorf("%v: told %v, want %v", what, err, want)
	}
}

// wantBytes fails unless a call answered these bytes, with nothing wrong.
func wantBytes(t *testing.T, what any, got string, err error, want string) {
	t.Helper()
	wantTold(t, what, err, api.OK)
	if got != want {
		t.Errorf("%v = %q, want %q", what, got, want)
	}
}

// wantNoBytes fails unless a call told this error, and nothing else.
func wantNoBytes(t *testing.T, what any, got string, err error, want api.Errno) {
	t.Helper()
	wantTold(t, what, err, want)
	if got != "" {
		t.Errorf("%v = %q, want none", what, got)
	}
}

// wantTerm, wantSet and wantLayer fail unless bytes are read as this, with just this error.
func wantTerm(t *testing.T, b string, want api.Term, told api.Errno) {
	t.Helper()
	got, err := code.ReadTerm(b)
	if got != want || plain.Told(err) != told || (err == nil) != (told == api.OK) {
		t.Errorf("ReadTerm(%q) = %v, %v, want %v, %v", b, got, err, want, told)
	}
}

func wantSet(t *testing.T, b string, want []api.Triple, told api.Errno) {
	t.Helper()
	got, err := code.ReadSet(b)
	if !slices.Equal(got, want) || plain.Told(err) != told || (err == nil) != (told == api.OK) {
		t.Errorf("ReadSet(%q) = %v, %v, want %v, %v", b, got, err, want, told)
	}
}

func wantLayer(t *testing.T, b string, want api.Layer, told api.Errno) {
	t.Helper()
	got, err := code.ReadLayer(b)
	same := slices.Equal(got.Add, want.Add) && slices.Equal(got.Take, want.Take)
	if !same || plain.Told(err) != told || (err == nil) != (told == api.OK) {
		t.Errorf("ReadLayer(%q) = %v, %v, want %v, %v", b, got, err, want, told)
	}
}

// size is how many bytes the term has that begins with these, as far as they show it. It needs more of them where it is beyond their end.
func size(b string) int {
	lang := 0
	if b[0] == 7 {
		lang = 2
	}
	if len(b) < 2+lang {
		return 2 + lang
	}
	return 2 + lang + int(b[1+lang])
}

// cutTerms cuts so many terms off, and tells what stands in the way of the first one that can't be.
func cutTerms(b string, count int) (terms []api.Term, rest string, told api.Errno) {
	for range count {
		if b == "" {
			return nil, "", api.ErrShort
		}
		if !strings.ContainsRune("\x01\x02\x03\x07", rune(b[0])) {
			return nil, "", api.ErrSyntax
		}
		n := size(b)
		if len(b) < n {
			return nil, "", api.ErrShort
		}
		x := api.Term{Kind: int(b[0]), S: b[2:n]}
		if b[0] == 7 {
			x = text(b[4:n], b[1:3])
		}
		if term.Check(x) != nil {
			return nil, "", api.ErrSyntax
		}
		terms, b = append(terms, x), b[n:]
	}
	return terms, b, api.OK
}

// cutSet cuts a set off, whether it is one or not.
func cutSet(b string) (l []api.Triple, rest string, told api.Errno) {
	if len(b) < 2 {
		return nil, "", api.ErrShort
	}
	count := int(b[0])*256 + int(b[1])
	if count > most {
		return nil, "", api.ErrSyntax
	}
	terms, rest, told := cutTerms(b[2:], 3*count)
	for x := range slices.Chunk(terms, 3) {
		l = append(l, said(x[0], x[1], x[2]))
	}
	return l, rest, told
}

// wantRead fails unless bytes are read by all three calls as they can be cut.
func wantRead(t *testing.T, b string) {
	t.Helper()
	terms, rest, told := cutTerms(b, 1)
	if told == api.OK && rest != "" {
		terms, told = nil, api.ErrSyntax
	}
	wantTerm(t, b, append(terms, api.Term{})[0], told)

	one, behind, told := cutSet(b)
	if told != api.OK {
		wantSet(t, b, nil, told)
		wantLayer(t, b, of(nil, nil), told)
		return
	}
	if behind != "" || triple.Sorted(one) != nil {
		wantSet(t, b, nil, api.ErrSyntax)
	} else {
		wantSet(t, b, one, api.OK)
	}

	two, rest, told := cutSet(behind)
	if told == api.OK && (rest != "" || layer.Check(of(one, two)) != nil) {
		told = api.ErrSyntax
	}
	if told != api.OK {
		one, two = nil, nil
	}
	wantLayer(t, b, of(one, two), told)
}
