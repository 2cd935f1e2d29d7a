package ask_test

import (
	"fmt"
	"slices"
	"strings"
	"testing"

	"strataweb/api"
	"strataweb/ask"
)

func wantChecked(t *testing.T, q api.Query, want api.Errno) {
	t.Helper()
	wantTold(t, fmt.Sprint(q), ask.Check(q), want)
}

func TestCheckOfWhatIsRight(t *testing.T) {
	for _, w := range writtens() {
		wantChecked(t, w.q, api.OK)
	}
}

func TestCheckHowManyParts(t *testing.T) {
	p := part("?x", "a", "b")
	wantChecked(t, asking(vars("x")), api.ErrNone)
	wantChecked(t, api.Query{}, api.ErrNone)
	wantChecked(t, api.Query{Vars: vars("x"), Parts: []api.Pattern{}}, api.ErrNone)
	for n := 1; n <= api.MaxParts; n++ {
		wantChecked(t, asking(vars("x"), slices.Repeat([]api.Pattern{p}, n)...), api.OK)
	}
	for _, n := range []int{api.MaxParts + 1, api.MaxParts + 2, 1000} {
		wantChecked(t, asking(vars("x"), slices.Repeat([]api.Pattern{p}, n)...), api.ErrFull)
		// How many there are weighs more than what they are.
		wantChecked(t, api.Query{Parts: make([]api.Pattern, n)}, api.ErrFull)
	}
}

func TestCheckSlots(t *testing.T) {
	x, a := free("x"), just(named("a"))
	right := shape(x, a, a)
	for _, bad := range noSlots() {
		for at := range 3 {
			for n := range api.MaxParts {
				parts := slices.Repeat([]api.Pattern{right}, api.MaxParts)
				parts[n] = placed(at, bad.s, [3]api.Slot{x, x, x})
				wantChecked(t, asking(vars("x"), parts...), bad.want)
				wantChecked(t, asking(vars("x"), parts[:n+1]...), bad.want)
			}
		}
	}
}

// Of several parts that have a fault the first one's is told, and ahead of how many variables there are.
func TestCheckFirstPart(t *testing.T) {
	x, a := free("x"), just(named("a"))
	for _, one := range noSlots() {
		for _, two := range noSlots() {
			wantChecked(t, asking(vars("x"), shape(x, a, one.s), shape(two.s, x, x)), one.want)
			wantChecked(t, asking(vars("x"), shape(x, a, a), shape(x, a, one.s), shape(x, a, a), shape(two.s, x, x)), one.want)
		}
		wantChecked(t, asking(vars("a"), append(wide(15), shape(one.s, x, x))...), one.want)
		wantChecked(t, asking(vars("a"), append([]api.Pattern{shape(x, x, one.s)}, wide(15)...)...), one.want)
	}
}

func TestCheckHowManyVariables(t *testing.T) {
	for n := 1; n <= 18; n++ {
		want := api.OK
		if n > api.MaxVars {
			want = api.ErrFull
		}
		wantChecked(t, asking(vars("a"), wide(n)...), want)
		// Which of them are told does not matter, as long as there are not too many.
		wantChecked(t, asking(vars("abcdefghijklmnopqr")[:n], wide(n)...), want)
	}
	// One that stands in several places is one.
	wantChecked(t, asking(vars("abcdefgh"), append(wide(8), wide(8)...)...), api.OK)
	wantChecked(t, asking(vars("a"), append(wide(8), part("?h", "?a", "?i"))...), api.ErrFull)
	wantChecked(t, asking(vars("a"), append(wide(8), part("?h", "?a", "?h"))...), api.OK)
	// One is not another one that it begins, and no term's text is one.
	wantChecked(t, asking(vars("a"), append(wide(8), part("?aa", "?a", "a"))...), api.ErrFull)
	wantChecked(t, asking(vars("a"), append(wide(8), part("i", "j", "k"))...), api.OK)
	// That there are too many weighs more than which are told.
	wantChecked(t, asking(nil, wide(9)...), api.ErrFull)
	wantChecked(t, asking(vars("zz"), wide(9)...), api.ErrFull)
	// Just those of parts count.
	wantChecked(t, asking(vars("abcdefghi"), wide(8)...), api.ErrNone)
}

func TestCheckVars(t *testing.T) {
	for _, c := range []struct {
		vars []string
		want api.Errno
	}{
		{vars("x"), api.OK},
		{vars("y"), api.OK},
		{vars("z"), api.OK},
		{vars("zxy"), api.OK},
		{nil, api.ErrNone},
		{[]string{}, api.ErrNone},
		{vars("w"), api.ErrNone},
		{vars("xw"), api.ErrNone},
		{vars("wx"), api.ErrNone},
		{vars("xyzw"), api.ErrNone},
		{[]string{""}, api.ErrNone},
		{[]string{"x", ""}, api.ErrNone},
		// A term is no variable, nor is what is written of one.
		{[]string{"a"}, api.ErrNone},
		{[]string{"?x"}, api.ErrNone},
		{[]string{"xx"}, api.ErrNone},
		{[]string{"X"}, api.ErrNone},
		{[]string{strings.Repeat("x", 1000)}, api.ErrNone},
		{vars("xx"), api.ErrClash},
		{vars("xyx"), api.ErrClash},
		{vars("xyzz"), api.ErrClash},
		{vars("zyxyz"), api.ErrClash},
		{slices.Repeat(vars("x"), 100_000), api.ErrClash},
		{slices.Repeat(vars("xyz"), 100_000), api.ErrClash},
		// That one is none weighs more than that one is there twice, wherever it stands.
		{vars("xxw"), api.ErrNone},
		{vars("wxx"), api.ErrNone},
		{vars("xwx"), api.ErrNone},
		{vars("ww"), api.ErrNone},
		{append(slices.Repeat(vars("xyz"), 100_000), "w"), api.ErrNone},
	} {
		q := asking(c.vars, part("?x", "a", "?y"), part("?y", "?y", "?z"))
		what := fmt.Sprint(q)
		wantTold(t, what[:min(len(what), 200)], ask.Check(q), c.want)
	}
}

func TestCheckOrder(t *testing.T) {
	q := asking(vars("xy"), part("?x", "a", "?y"), part("?y", "?y", "?z"))
	for _, c := range []struct {
		order string
		want  api.Errno
	}{
		{"", api.OK},
		{"x", api.OK},
		{"y", api.OK},
		// It must be one of those that are told, not just one of a part.
		{"z", api.ErrNone},
		{"w", api.ErrNone},
		{"a", api.ErrNone},
		{"xy", api.ErrNone},
		{"?x", api.ErrNone},
		{" ", api.ErrNone},
		{"\x00", api.ErrNone},
	} {
		wantChecked(t, ordered(q, c.order, false), c.want)
		if c.order != "" {
			wantChecked(t, ordered(q, c.order, true), c.want)
		}
	}
	wantChecked(t, ordered(q, "", true), api.ErrShape)
}

func TestCheckLimit(t *testing.T) {
	q := asking(vars("x"), part("?x", "a", "b"))
	for n, want := range limits() {
		wantChecked(t, limited(q, n), want)
		wantChecked(t, distinct(limited(ordered(q, "x", true), n)), want)
	}
}

// change makes a fault in a query, and is what is told of it.
type change struct {
	make func(q *api.Query)
	want api.Errno
}

// changes are the chapter's faults, in its order. Where two cannot be at once, the first one undoes the other if it is made behind it.
func changes() []change {
	return []change{
		{func(q *api.Query) { q.Parts = append(q.Parts, make([]api.Pattern, api.MaxParts+1)...) }, api.ErrFull},
		{func(q *api.Query) { q.Parts = nil }, api.ErrNone},
		{func(q *api.Query) { q.Parts[3].P = api.Slot{} }, api.ErrRange},
		{func(q *api.Query) { q.Parts[3].P = free("X") }, api.ErrSyntax},
		{func(q *api.Query) { q.Parts[3].P = api.Slot{Var: "c", Term: named("a")} }, api.ErrShape},
		{func(q *api.Query) { q.Parts[2].O = free("i") }, api.ErrFull},
		{func(q *api.Query) { q.Vars = nil }, api.ErrNone},
		{func(q *api.Query) { q.Vars = append(q.Vars, "z") }, api.ErrNone},
		{func(q *api.Query) { q.Vars = append(q.Vars, "a") }, api.ErrClash},
		{func(q *api.Query) { q.Order = "f" }, api.ErrNone},
		{func(q *api.Query) { q.Order, q.Down = "", true }, api.ErrShape},
		{func(q *api.Query) { q.Limit = api.MaxAnswers + 1 }, api.ErrRange},
		{func(q *api.Query) { q.Limit = -2 }, api.ErrRange},
	}
}

// Of all sets of faults that a query can have the first that the chapter names is told.
func TestCheckTellsTheFirst(t *testing.T) {
	all := changes()
	for bits := range 1 << len(all) {
		q := ordered(asking(vars("ab"), append(wide(8), part("a", "a", "a"))...), "a", false)
		want := api.OK
		for i, c := range slices.Backward(all) {
			if bits>>i&1 == 1 {
				c.make(&q)
				want = c.want
			}
		}
		wantChecked(t, q, want)
	}
}

// lists are all lists of at most so many of these texts.
func lists(pool []string, most int) [][]string {
	out := [][]string{nil}
	for from := 0; most > 0; most-- {
		to := len(out)
		for _, l := range out[from:to] {
			for _, s := range pool {
				out = append(out, append(l[:len(l):len(l)], s))
			}
		}
		from = to
	}
	return out
}

// smalls calls with many small queries, right or not, whose parts have no fault.
func smalls(call func(q api.Query)) {
	parts := [][]api.Pattern{
		{part("?x", "a", "b")},
		{part("a", "?y", "?x")},
		{part("a", "b", "c")},
		{part("?x", "a", "b"), part("?y", "?z", "?y")},
	}
	for _, p := range parts {
		for _, v := range lists([]string{"x", "y", "z", ""}, 3) {
			for _, order := range []string{"", "x", "y", "w"} {
				for _, limit := range []int{-2, -1, 0, 500, 501} {
					for bits := range 4 {
						call(api.Query{Vars: v, Parts: p, Order: order, Down: bits&1 != 0, Distinct: bits&2 != 0, Limit: limit})
					}
				}
			}
		}
	}
}

// told is what the chapter says of a query whose parts have no fault.
func told(q api.Query) api.Errno {
	seen := map[string]int{}
	none, twice := len(q.Vars) == 0, false
	for _, v := range q.Vars {
		// The text of these parts has a variable just if it is there behind this mark.
		none = none || v == "" || !strings.Contains(fmt.Sprint(q.Parts), "{"+v+" {")
		seen[v]++
		twice = twice || seen[v] > 1
	}
	switch {
	case none:
		return api.ErrNone
	case twice:
		return api.ErrClash
	case q.Order != "" && seen[q.Order] == 0:
		return api.ErrNone
	case q.Order == "" && q.Down:
		return api.ErrShape
	case q.Limit == -2 || q.Limit == 501:
		return api.ErrRange
	}
	return api.OK
}

func TestCheckOfAllSmallQueries(t *testing.T) {
	smalls(func(q api.Query) { wantChecked(t, q, told(q)) })
}

// Check neither writes into what it is given nor reads behind its length.
func TestCheckMemory(t *testing.T) {
	names, parts := vars("xyx"), []api.Pattern{part("?x", "a", "b"), part("?y", "?y", "?x"), {}}
	wantChecked(t, asking(names[:2], parts[:2]...), api.OK)
	wantChecked(t, asking(names[:3], parts[:2]...), api.ErrClash)
	wantChecked(t, asking(names[:2], parts[:3]...), api.ErrRange)
	wantChecked(t, asking(names[:2], parts[:1]...), api.ErrNone)
	if !slices.Equal(names, vars("xyx")) || !slices.Equal(parts, []api.Pattern{part("?x", "a", "b"), part("?y", "?y", "?x"), {}}) {
		t.Errorf("Check has left %q, %v", names, parts)
	}
}
