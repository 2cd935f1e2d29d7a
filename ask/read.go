package ask

import (
	"math"
	"strconv"
	"strings"

	"strataweb/api"
	"strataweb/match"
	"strataweb/term"
	"strataweb/triple"
)

// reader goes over a text word by word. It goes behind a word only if that can stand there, so where it stays is the first one that cannot.
type reader struct {
	rest string
	more bool // a word begins at rest, perhaps an empty one
	at   int  // the place of that word
}

// read makes of a text the query that it is, right or not; of one that is none it tells the place of the first word that cannot stand there.
func read(text string) (api.Query, int, bool) {
	r := reader{rest: text, more: true}
	q := api.Query{Limit: noLimit}
	ok := r.head(&q) && r.parts(&q) && r.order(&q) && r.limit(&q) && !r.more
	return q, r.at, ok
}

// taken reads the next word, and goes behind it if it can be read.
func taken[T any](r *reader, read func(word string) (T, bool)) (T, bool) {
	var none T
	if !r.more {
		return none, false
	}
	word, rest, more := triple.CutWord(r.rest)
	out, ok := read(word)
	if !ok {
		return none, false
	}
	r.rest, r.more = rest, more
	r.at++
	return out, true
}

// is goes behind the next word if it is this one.
func (r *reader) is(want string) bool {
	_, ok := taken(r, func(word string) (string, bool) { return "", word == want })
	return ok
}

// head reads what stands ahead of the parts. That no variable is told is for Check to say.
func (r *reader) head(q *api.Query) bool {
	if !r.is(selectWord) {
		return false
	}
	q.Distinct = r.is(distinctWord)
	for name, ok := taken(r, readVar); ok; name, ok = taken(r, readVar) {
		q.Vars = append(q.Vars, name)
	}
	return r.is(whereWord)
}

// parts reads at least one: any word behind where may be a term, so none of them could say that there is no part.
func (r *reader) parts(q *api.Query) bool {
	for {
		p, ok := r.part()
		if !ok {
			return false
		}
		q.Parts = append(q.Parts, p)
		if !r.is(andWord) {
			return true
		}
	}
}

func (r *reader) part() (api.Pattern, bool) {
	var slots [3]api.Slot
	for i := range slots {
		s, ok := taken(r, readSlot)
		if !ok {
			return api.Pattern{}, false
		}
		slots[i] = s
	}
	return api.Pattern{S: slots[0], P: slots[1], O: slots[2]}, true
}

// order reads by which variable, and which way round, if it is told.
func (r *reader) order(q *api.Query) bool {
	if !r.is(orderWord) {
		return true
	}
	name, ok := taken(r, readVar)
	if !ok {
		return false
	}
	q.Order, q.Down = name, r.is(downWord)
	return true
}

// limit reads how many, if it is told.
func (r *reader) limit(q *api.Query) bool {
	if !r.is(limitWord) {
		return true
	}
	n, ok := taken(r, readNumber)
	if !ok {
		return false
	}
	q.Limit = n
	return true
}

// readVar reads a variable into memory of its own: it keeps no long text alive.
func readVar(word string) (string, bool) {
	name, ok := strings.CutPrefix(word, varMark)
	if !ok || !match.IsVar(name) {
		return "", false
	}
	return strings.Clone(name), true
}

func readSlot(word string) (api.Slot, bool) {
	if name, ok := readVar(word); ok {
		return api.Slot{Var: name}, true
	}
	t, err := term.Parse(word)
	return api.Slot{Term: t}, err == nil
}

// readNumber takes a number as it is written alone. One that is beyond all ints is a number, too: the greatest int stands for it, of which Check tells the same.
func readNumber(word string) (int, bool) {
	if !isNumber(word) {
		return 0, false
	}
	n, err := strconv.Atoi(word)
	if err != nil {
		return math.MaxInt, true
	}
	return n, true
}

// isNumber tells whether a word is digits alone, of any length, without a 0 ahead that it does not need.
func isNumber(word string) bool {
	noDigit := func(r rune) bool { return r < '0' || r > '9' }
	if word == "" || strings.ContainsFunc(word, noDigit) {
		return false
	}
	return word == "0" || word[0] != '0'
}
