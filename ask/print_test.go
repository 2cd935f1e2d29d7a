package ask_test

import (
	"fmt"
	"slices"
	"testing"
	"unsafe"

	"strataweb/api"
	"strataweb/ask"
	"strataweb/plain"
)

func TestPrint(t *testing.T) {
	for _, w := range writtens() {
		got, err := ask.Print(w.q)
		wantTold(t, w.text, err, api.OK)
		if got != w.text {
			t.Errorf("Print(%v) = %q, want %q", w.q, got, w.text)
		}
	}
}

// wantUnprinted fails unless Print tells this error, which is Check's, and nothing else.
func wantUnprinted(t *testing.T, q api.Query, want api.Errno) {
	t.Helper()
	got, err := ask.Print(q)
	wantTold(t, fmt.Sprint(q), err, want)
	if got != "" {
		t.Errorf("Print(%v) = %q, want none", q, got)
	}
	if check := plain.Told(ask.Check(q)); check != want {
		t.Errorf("Check(%v) told %v, want %v", q, check, want)
	}
}

func TestPrintTellsWhatCheckTells(t *testing.T) {
	x := asking(vars("x"), part("?x", "a", "b"))
	wantUnprinted(t, api.Query{}, api.ErrNone)
	wantUnprinted(t, asking(vars("x"), slices.Repeat(x.Parts, api.MaxParts+1)...), api.ErrFull)
	wantUnprinted(t, asking(vars("a"), wide(9)...), api.ErrFull)
	wantUnprinted(t, asking(nil, x.Parts...), api.ErrNone)
	wantUnprinted(t, asking(vars("y"), x.Parts...), api.ErrNone)
	wantUnprinted(t, asking(vars("xx"), x.Parts...), api.ErrClash)
	wantUnprinted(t, ordered(x, "y", false), api.ErrNone)
	wantUnprinted(t, ordered(x, "", true), api.ErrShape)
	wantUnprinted(t, limited(x, -2), api.ErrRange)
	wantUnprinted(t, limited(x, api.MaxAnswers+1), api.ErrRange)
	for _, bad := range noSlots() {
		for at := range 3 {
			p := placed(at, bad.s, [3]api.Slot{free("x"), free("x"), free("x")})
			wantUnprinted(t, asking(vars("x"), p), bad.want)
			wantUnprinted(t, asking(vars("x"), x.Parts[0], p), bad.want)
		}
	}
}

// What Print shows is read as it was, and no two queries are shown alike.
func TestPrintAndParse(t *testing.T) {
	shown := map[string]api.Query{}
	check := func(q api.Query) {
		s, err := ask.Print(q)
		if err != nil {
			wantUnprinted(t, q, plain.Told(ask.Check(q)))
			return
		}
		if old, ok := shown[s]; ok && !same(old, q) {
			t.Errorf("%v and %v are both written %q", old, q, s)
		}
		shown[s] = q
		got, at, err := ask.Parse(s)
		wantTold(t, s, err, api.OK)
		wantQuery(t, s, got, q)
		if at != 0 {
			t.Errorf("Parse(%q) told place %d", s, at)
		}
	}
	for _, w := range writtens() {
		check(w.q)
	}
	smalls(check)
	for n := range api.MaxAnswers + 2 {
		check(limited(asking(vars("x"), part("?x", "a", "b")), n-1))
	}
	if len(shown) < 500 {
		t.Errorf("%d queries alone were shown", len(shown))
	}
}

// Print neither writes into what it is given nor reads behind its length, and answers memory of its own.
func TestPrintMemory(t *testing.T) {
	names, parts := vars("xyx"), []api.Pattern{part("?x", "a", "b"), part("?y", "?y", "?x"), {}}
	q := asking(names[:2], parts[:2]...)
	const want = "select ?x ?y where ?x a b and ?y ?y ?x"
	one, err := ask.Print(q)
	wantTold(t, one, err, api.OK)
	two, err := ask.Print(q)
	wantTold(t, two, err, api.OK)
	if one != want || two != want {
		t.Errorf("Print = %q, %q, want %q", one, two, want)
	}
	if unsafe.StringData(one) == unsafe.StringData(two) {
		t.Error("Print answers the memory that it answered before")
	}
	if !slices.Equal(names, vars("xyx")) || !slices.Equal(parts, []api.Pattern{part("?x", "a", "b"), part("?y", "?y", "?x"), {}}) {
		t.Errorf("Print has left %q, %v", names, parts)
	}
}
