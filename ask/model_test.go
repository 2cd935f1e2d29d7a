package ask_test

import (
	"regexp"
	"strconv"
	"strings"
	"testing"

	"strataweb/api"
	"strataweb/ask"
	"strataweb/plain"
	"strataweb/term"
)

// The chapter's words of the form, as patterns over bytes. A word of a text is cut off as: what begins with quotes that end, and goes on to a blank; what begins with quotes that do not end; what begins with none.
var (
	wordForm = regexp.MustCompile(`(?s)^(?:"(?:[^"\\]|\\.)*"[^ ]*|"(?:[^"\\]|\\.)*\\?$|[^ "][^ ]*|)`)
	varForm  = regexp.MustCompile(`^\?[a-z]{1,10}$`)
	numForm  = regexp.MustCompile(`^(0|[1-9][0-9]*)$`)
	// A query over kinds of words, a byte each: see kindOf. Any of the words of the form may be a term, too.
	queryForm = regexp.MustCompile(strings.ReplaceAll(`^s(d?)(v*)w(SSS(?:aSSS)*)(?:o(v)(n?))?(?:l(5))?$`, "S", "[sdwaonlvt]"))
)

// wordsOf cuts a text.
func wordsOf(s string) []string {
	var out []string
	for {
		w := wordForm.FindString(s)
		out = append(out, w)
		if len(w) == len(s) {
			return out
		}
		s = s[len(w)+1:]
	}
}

// kindOf tells what a word may be: one of the form, a variable, a number, a term, nothing.
func kindOf(word string) byte {
	switch word {
	case "select", "distinct", "where", "and", "order", "limit":
		return word[0]
	case "down":
		return 'n'
	}
	if varForm.MatchString(word) {
		return 'v'
	}
	if numForm.MatchString(word) {
		return '5'
	}
	if _, err := term.Parse(word); err == nil {
		return 't'
	}
	return '-'
}

// begins remembers which kinds some query begins with.
type begins map[string]bool

// of tells whether a query begins so: whether the end of one that has all goes on from there.
func (b begins) of(kinds string) bool {
	const all = "sdvwtttatttovnl5"
	is, ok := b[kinds]
	for n := 0; !ok && !is && n <= len(all); n++ {
		is = queryForm.MatchString(kinds + all[n:])
	}
	b[kinds] = is
	return is
}

// made makes the query of words that have the form.
func made(words []string, kinds string) api.Query {
	at := queryForm.FindStringSubmatchIndex(kinds)
	q := api.Query{Limit: -1, Distinct: at[2] < at[3]}
	for _, w := range words[at[4]:at[5]] {
		q.Vars = append(q.Vars, w[1:])
	}
	slot := func(w string) api.Slot {
		if w[0] == '?' {
			return free(w[1:])
		}
		x, _ := term.Parse(w)
		return just(x)
	}
	for n := at[6]; n < at[7]; n += 4 {
		q.Parts = append(q.Parts, shape(slot(words[n]), slot(words[n+1]), slot(words[n+2])))
	}
	if at[8] >= 0 {
		q.Order, q.Down = words[at[8]][1:], at[10] < at[11]
	}
	if at[12] >= 0 {
		q.Limit = limitOf(words[at[12]])
	}
	return q
}

// limitOf is a number, or, of all that have more digits than the greatest limit, one that may not be either.
func limitOf(word string) int {
	if len(word) > len(strconv.Itoa(api.MaxAnswers)) {
		return api.MaxAnswers + 1
	}
	n, _ := strconv.Atoi(word)
	return n
}

// wantRead fails unless Parse says of a text what the chapter's words say of it.
func wantRead(t *testing.T, b begins, s string) {
	t.Helper()
	words := wordsOf(s)
	kinds := ""
	for n, w := range words {
		kinds += string(kindOf(w))
		if !b.of(kinds) {
			wantWrong(t, wrong{s, n, api.ErrSyntax})
			return
		}
	}
	if !queryForm.MatchString(kinds) {
		wantWrong(t, wrong{s, len(words), api.ErrSyntax})
		return
	}
	q := made(words, kinds)
	if err := ask.Check(q); err != nil {
		wantWrong(t, wrong{s, 0, plain.Told(err)})
		return
	}
	got, at, err := ask.Parse(s)
	wantTold(t, s, err, api.OK)
	wantQuery(t, s, got, q)
	if at != 0 {
		t.Errorf("Parse(%q) told place %d", s, at)
	}
	if back, err := ask.Print(got); back != s || err != nil {
		t.Errorf("Print(Parse(%q)) = %q, %v", s, back, err)
	}
}

// wrong is a text that is no query's, the place that is told, and the error.
type wrong struct {
	text string
	at   int
	want api.Errno
}

// wantWrong fails unless Parse tells this place and this error, and nothing else.
func wantWrong(t *testing.T, w wrong) {
	t.Helper()
	shown := w.text[:min(len(w.text), 300)]
	q, at, err := ask.Parse(w.text)
	wantTold(t, shown, err, w.want)
	wantQuery(t, shown, q, api.Query{})
	if at != w.at {
		t.Errorf("Parse(%q) told place %d, want %d", shown, at, w.at)
	}
}
