package patch_test

import (
	"strings"
	"testing"
	"unsafe"

	"strataweb/api"
	"strataweb/layer"
	"strataweb/patch"
	"strataweb/plain"
	"strataweb/triple"
)

func TestParse(t *testing.T) {
	for _, w := range writtens() {
		got, line, err := patch.Parse(w.text)
		wantLine(t, w.text, line, err, 0, api.OK)
		wantLayer(t, w.text, got, w.l)
	}
}

// wantWrong fails unless Parse tells which line is wrong, and how, and nothing else; and Apply the same, whatever the set is.
func wantWrong(t *testing.T, w wrong) {
	t.Helper()
	l, line, err := patch.Parse(w.text)
	wantLine(t, w.text, line, err, w.line, w.want)
	wantLayer(t, w.text, l, api.Layer{})
	for _, s := range [][]api.Triple{nil, list("abc"), list("abc", "abc"), span(0, most+1)} {
		got, line, err := patch.Apply(s, w.text)
		wantLine(t, w.text, line, err, w.line, w.want)
		wantSet(t, w.text, got, nil)
	}
}

// unread are lines that are none, with what ends them.
func unread() []string {
	return []string{
		"\n", " \n", "-\n", "+\n", "- \n", "+ \n", "a b c\n", "-a b c\n", "+a b c\n", " - a b c\n", " + a b c\n",
		"-  a b c\n", "+  a b c\n", "-\ta b c\n", "* a b c\n", "-+ a b c\n", "+- a b c\n", "-- a b c\n", "++ a b c\n", "- + a b c\n", "+ - a b c\n",
		"+ a b\n", "+ a b c \n", "+ a b c d\n", "+ a  b c\n", "+ A b c\n", "- a b \"c\n", "- a b \"c\"@e\n", "+ a b c\r\n", "+ a b c\x00\n",
		"\x00+ a b c\n", "\xef\xbb\xbf+ a b c\n", "\xe2\x88\x92 a b c\n", "+ a b \xff\n", "# a b c\n", "@@\n", "<a b c\n", "> a b c\n",
	}
}

// unended are lines that have no end, as the last ones alone can be.
func unended() []string {
	long := strings.Repeat("a", api.MaxText+1)
	return []string{
		"-", "+", "- ", "+ ", "a", " ", "+ a b", "- a b c", "+ a b c", "+ a b c ", "+ a b c\r", "- a b " + long, "+ \"a\" b c",
	}
}

func TestParseSyntax(t *testing.T) {
	const two = "- c c c\n+ a a a\n"
	for _, s := range unread() {
		for _, behind := range []string{"", "\n", "+ z z z", "+ z z z\n", "- z z z\n", s} {
			wantWrong(t, wrong{s + behind, 0, api.ErrSyntax})
			wantWrong(t, wrong{"- c c c\n" + s + behind, 1, api.ErrSyntax})
			wantWrong(t, wrong{two + s + behind, 2, api.ErrSyntax})
		}
	}
	for _, s := range unended() {
		wantWrong(t, wrong{s, 0, api.ErrSyntax})
		wantWrong(t, wrong{"- c c c\n" + s, 1, api.ErrSyntax})
		wantWrong(t, wrong{two + s, 2, api.ErrSyntax})
	}
	for _, w := range []wrong{
		// A Take stands behind an Add, right in all else or not.
		{"+ a a a\n- b b b\n", 1, api.ErrSyntax},
		{"+ b b b\n- a a a\n", 1, api.ErrSyntax},
		{"+ a a a\n- a a a\n", 1, api.ErrSyntax},
		{two + "- d d d\n", 2, api.ErrSyntax},
		{two + "+ b b b\n- d d d\n+ c d d\n", 3, api.ErrSyntax},
		// An empty line is one, in the midst and at the end.
		{two + "\n", 2, api.ErrSyntax},
		{"- c c c\n\n+ a a a\n", 1, api.ErrSyntax},
	} {
		wantWrong(t, w)
	}
}

func TestParseTriples(t *testing.T) {
	long := strings.Repeat("a", api.MaxText+1)
	for _, c := range []struct {
		said string
		want api.Errno
	}{
		{"b b " + long, api.ErrFull},
		{long + " b b", api.ErrFull},
		{`b b "` + long + `"@en`, api.ErrFull},
		{"b b " + strings.Repeat("a", 100_000), api.ErrFull},
		{`"b" b b`, api.ErrShape},
		{"b _b b", api.ErrShape},
		{`b "b" b`, api.ErrShape},
		{`"b" b ` + long, api.ErrSyntax},
		{"b B " + long, api.ErrSyntax},
		{"b b", api.ErrSyntax},
	} {
		if _, err := triple.Parse(c.said); plain.Told(err) != c.want {
			t.Fatalf("triple.Parse(%q) told %v, want %v", c.said, err, c.want)
		}
		for _, w := range []wrong{
			{"- " + c.said + "\n", 0, c.want},
			{"+ " + c.said + "\n", 0, c.want},
			{"- a a a\n- " + c.said + "\n", 1, c.want},
			{"- a a a\n+ " + c.said + "\n", 1, c.want},
			{"- a a a\n+ b b b\n+ " + c.said + "\n", 2, c.want},
			// The lines behind it are not looked at.
			{"- " + c.said + "\n\n", 0, c.want},
			{"+ " + c.said + "\n- a a a\n", 0, c.want},
			// A triple is told ahead of how many there are.
			{lines("-", 0, most) + "- " + c.said + "\n", most, c.want},
			{lines("+", 0, most) + "+ " + c.said + "\n", most, c.want},
			// The line comes ahead of its triple.
			{"+ " + c.said, 0, api.ErrSyntax},
			{"* " + c.said + "\n", 0, api.ErrSyntax},
			{"+ a a a\n- " + c.said + "\n", 1, api.ErrSyntax},
		} {
			wantWrong(t, w)
		}
	}
}

func TestParseState(t *testing.T) {
	for _, w := range []wrong{
		{"- a a a\n- a a a\n", 1, api.ErrState},
		{"+ a a a\n+ a a a\n", 1, api.ErrState},
		{"- a a b\n- a a a\n", 1, api.ErrState},
		{"+ a a b\n+ a a a\n", 1, api.ErrState},
		{"- a a a\n- c c c\n- b b b\n+ a b a\n", 2, api.ErrState},
		{"- d d d\n+ a a a\n+ c c c\n+ b b b\n", 3, api.ErrState},
		// By Kind ahead of S, and by S ahead of Lang.
		{"+ _a a a\n+ b a a\n", 1, api.ErrState},
		{"+ a a \"\"\n+ a a _a\n", 1, api.ErrState},
		{"+ a a \"b\"\n+ a a \"a\"@en\n", 1, api.ErrState},
		{"+ a a \"a\"@en\n+ a a \"a\"\n", 1, api.ErrState},
		// It is told ahead of a clash, and ahead of how many there are.
		{"- a a a\n+ b b b\n+ a a a\n", 2, api.ErrState},
		{"- a a a\n+ a a b\n+ a a a\n- z z z\n", 2, api.ErrState},
		{lines("-", 0, most) + "- a a a\n", most, api.ErrState},
		{lines("+", 0, most) + lines("+", most-1, most), most, api.ErrState},
		{lines("-", most, 2*most) + lines("+", 0, most) + "+ a a a\n", 2 * most, api.ErrState},
		{lines("-", 0, 1) + lines("+", 1, most+1) + lines("+", 0, 1), most + 1, api.ErrState},
	} {
		wantWrong(t, w)
	}
}

func TestParseClash(t *testing.T) {
	for _, w := range []wrong{
		{"- a a a\n+ a a a\n", 1, api.ErrClash},
		{"- a a a\n- b b b\n- c c c\n+ b b b\n", 3, api.ErrClash},
		{"- a a a\n- b b b\n+ a a b\n+ b b b\n", 3, api.ErrClash},
		{"- a a a\n- b b b\n+ a a a\n+ b b b\n", 2, api.ErrClash},
		{"- a a a\n+ a a a\n\n", 1, api.ErrClash},
		{lines("-", 0, most) + lines("+", 0, 1), most, api.ErrClash},
		{lines("-", 0, most) + lines("+", most-1, most), most, api.ErrClash},
		// It is told ahead of how many there are.
		{lines("-", most, most+1) + lines("+", 0, most) + lines("+", most, most+1), most + 1, api.ErrClash},
	} {
		wantWrong(t, w)
	}
}

func TestParseFull(t *testing.T) {
	for _, w := range []wrong{
		{lines("-", 0, most+1), most, api.ErrFull},
		{lines("+", 0, most+1), most, api.ErrFull},
		{lines("-", 0, 1) + lines("+", 1, most+2), most + 1, api.ErrFull},
		{lines("-", 0, most) + lines("+", most, 2*most+1), 2 * most, api.ErrFull},
		{lines("-", 0, most+1) + lines("+", most+1, 2*most+2), most, api.ErrFull},
		{lines("+", 0, most+1) + "\n", most, api.ErrFull},
		{lines("+", 0, 5*most), most, api.ErrFull},
		// The line comes ahead of how many there are.
		{strings.TrimSuffix(lines("+", 0, most+1), "\n"), most, api.ErrSyntax},
		{lines("-", 0, most) + "+ a a a\n" + lines("-", most, most+1), most + 1, api.ErrSyntax},
	} {
		wantWrong(t, w)
	}
}

// shows has the texts of all layers of some triples, so that a text is right just if it is there.
func shows(t *testing.T, all []api.Triple) map[string]api.Layer {
	t.Helper()
	out := map[string]api.Layer{}
	for add := range 1 << len(all) {
		for take := range 1 << len(all) {
			l := of(picked(all, add), picked(all, take))
			if layer.Check(l) != nil {
				continue
			}
			s, err := patch.Print(l)
			wantTold(t, l, err, api.OK)
			if old, ok := out[s]; ok {
				t.Errorf("%v and %v are both written %q", old, l, s)
			}
			out[s] = l
		}
	}
	return out
}

// What Print shows is read as it was: all layers of some triples.
func TestParseReadsWhatPrintShows(t *testing.T) {
	for s, want := range shows(t, universe()) {
		got, line, err := patch.Parse(s)
		wantLine(t, s, line, err, 0, api.OK)
		wantLayer(t, s, got, want)
	}
}

// firstWrong is how many lines are right: so many that no layer's text begins with one more.
func firstWrong(right map[string]api.Layer, pieces []string) int {
	for n := range pieces {
		if _, ok := right[strings.Join(pieces[:n+1], "")]; !ok {
			return n
		}
	}
	return len(pieces)
}

// how says what is wrong with the last of some lines, the others of which are right: the first of the chapter's that applies.
func how(pieces []string) api.Errno {
	ahead, last := pieces[:len(pieces)-1], pieces[len(pieces)-1]
	all := strings.Join(ahead, "")
	mark, s := last[:1], strings.TrimSuffix(last[1:], "\n")
	switch {
	case !strings.HasSuffix(last, "\n"), mark == "*", mark == "-" && strings.Contains(all, "+ "):
		return api.ErrSyntax
	case strings.HasPrefix(s, ` "`):
		return api.ErrShape
	}
	for _, x := range ahead {
		// Of terms that are Names of one letter the texts rise as the triples do.
		if x[:1] == mark && x[1:] >= last[1:] {
			return api.ErrState
		}
	}
	return api.ErrClash
}

func TestParseOfAllFewLines(t *testing.T) {
	right := shows(t, list("aaa", "aab", "baa"))
	pool := []string{
		"- a a a\n", "- a a b\n", "- b a a\n", "+ a a a\n", "+ a a b\n", "+ b a a\n", "* a a a\n", "- \"a\" a a\n", "+ \"a\" a a\n",
	}
	var grow func(pieces []string)
	grow = func(pieces []string) {
		wantRead(t, right, pieces)
		if len(pieces) == 5 {
			return
		}
		for _, p := range pool {
			next := append(pieces[:len(pieces):len(pieces)], p)
			wantRead(t, right, append(next[:len(pieces):len(pieces)], strings.TrimSuffix(p, "\n")))
			grow(next)
		}
	}
	grow(nil)
}

// wantRead fails unless Parse says of lines what they are.
func wantRead(t *testing.T, right map[string]api.Layer, pieces []string) {
	t.Helper()
	s := strings.Join(pieces, "")
	got, line, err := patch.Parse(s)
	n := firstWrong(right, pieces)
	if n == len(pieces) {
		wantLine(t, s, line, err, 0, api.OK)
		wantLayer(t, s, got, right[s])
		return
	}
	wantLine(t, s, line, err, n, how(pieces[:n+1]))
	wantLayer(t, s, got, api.Layer{})
}

// A text that is cut off is wrong in the line that does not end, and right where a line ends.
func TestParseOfAllBeginnings(t *testing.T) {
	const whole = "- a a \"- \\\" \\\\\"@en\n- _1 b c\n+ a b c\n+ a b _c\n+ _1 b \"\"\n"
	for n := range len(whole) + 1 {
		s := whole[:n]
		_, line, err := patch.Parse(s)
		if s == "" || strings.HasSuffix(s, "\n") {
			wantLine(t, s, line, err, 0, api.OK)
			continue
		}
		wantLine(t, s, line, err, strings.Count(s, "\n"), api.ErrSyntax)
	}
}

// Each other byte at each place of a text is another layer's, or wrong, and not in a line ahead of it.
func TestParseOfAllBytes(t *testing.T) {
	const whole = "- a a \"a\"@en\n- _1 b c\n+ a b c\n+ a b _c\n"
	for i := range len(whole) {
		for b := range 256 {
			s := whole[:i] + string([]byte{byte(b)}) + whole[i+1:]
			l, line, err := patch.Parse(s)
			if err != nil {
				if line < strings.Count(s[:i], "\n") {
					t.Errorf("Parse(%q) told line %d", s, line)
				}
				continue
			}
			back, err := patch.Print(l)
			wantTold(t, s, err, api.OK)
			if back != s || line != 0 {
				t.Errorf("Print(Parse(%q)) = %q", s, back)
			}
		}
	}
}

// What comes out is fresh memory: the terms keep no long text alive, and the lists share nothing.
func TestParseMemory(t *testing.T) {
	given := "- aaaa bbbb \"cccc\"@en\n- dddd eeee ffff\n+ gggg hhhh _iiii\n+ jjjj kkkk llll\n"
	l, _, err := patch.Parse(given)
	wantTold(t, given, err, api.OK)
	first := uintptr(unsafe.Pointer(unsafe.StringData(given)))
	for _, x := range append(l.Take[:2:2], l.Add...) {
		for _, s := range []string{x.S.S, x.P.S, x.O.S, x.O.Lang} {
			if at := uintptr(unsafe.Pointer(unsafe.StringData(s))); at >= first && at < first+uintptr(len(given)) {
				t.Errorf("%q is memory that Parse was given", s)
			}
		}
	}
	wipe(l.Add)
	again, _, err := patch.Parse(given)
	wantTold(t, given, err, api.OK)
	wantSet(t, "Take", l.Take, again.Take)
	wipe(l.Take)
	if s, err := patch.Print(again); s != given || err != nil {
		t.Errorf("Print = %q, %v, want %q", s, err, given)
	}
}

// wipe writes on all of a list's memory.
func wipe(l []api.Triple) {
	l = l[:cap(l)]
	for i := range l {
		l[i] = api.Triple{}
	}
}

func FuzzParse(f *testing.F) {
	for _, w := range writtens()[:10] {
		f.Add(w.text)
	}
	for _, s := range []string{"\n", "+", "+ a b c", "+ a b c\n- a b c\n", "- a b c\n+ a b c\n", "+ b b b\n+ a a a\n", "+ \"a\" b c\n"} {
		f.Add(s)
	}
	f.Fuzz(func(t *testing.T, s string) {
		l, line, err := patch.Parse(s)
		if err == nil {
			if back, err := patch.Print(l); back != s || err != nil || line != 0 {
				t.Errorf("Print(Parse(%q)) = %q, %v; line %d", s, back, err, line)
			}
			return
		}
		wantLayer(t, s, l, api.Layer{})
		// The lines ahead of the first that is wrong are a layer's, and with it they are none's.
		pieces := strings.SplitAfter(s, "\n")
		if line < 0 || line >= len(pieces) {
			t.Fatalf("Parse(%q) told line %d", s, line)
		}
		if _, n, bad := patch.Parse(strings.Join(pieces[:line], "")); n != 0 || bad != nil {
			t.Errorf("Parse of what is ahead of line %d of %q told %d, %v", line, s, n, bad)
		}
		_, n, bad := patch.Parse(strings.Join(pieces[:line+1], ""))
		wantLine(t, s, n, bad, line, plain.Told(err))
	})
}
