package ask

import (
	"strconv"
	"strings"

	"strataweb/api"
	"strataweb/term"
)

// The words of a query's text, and what stands ahead of a variable.
const (
	selectWord   = "select"
	distinctWord = "distinct"
	whereWord    = "where"
	andWord      = "and"
	orderWord    = "order"
	downWord     = "down"
	limitWord    = "limit"
	blank        = " "
	varMark      = "?"
)

// write makes the text of a query that has no fault.
func write(q api.Query) (string, error) {
	parts, err := partWords(q.Parts)
	if err != nil {
		return "", err
	}
	words := append(headWords(q), parts...)
	words = append(words, tailWords(q)...)
	return strings.Join(words, blank), nil
}

// headWords are those ahead of the parts.
func headWords(q api.Query) []string {
	words := []string{selectWord}
	if q.Distinct {
		words = append(words, distinctWord)
	}
	for _, name := range q.Vars {
		words = append(words, varMark+name)
	}
	return append(words, whereWord)
}

// partWords are three of each part, and one between.
func partWords(parts []api.Pattern) ([]string, error) {
	var words []string
	for i, p := range parts {
		if i > 0 {
			words = append(words, andWord)
		}
		for _, s := range [...]api.Slot{p.S, p.P, p.O} {
			word, err := slotWord(s)
			if err != nil {
				return nil, err
			}
			words = append(words, word)
		}
	}
	return words, nil
}

func slotWord(s api.Slot) (string, error) {
	if s.Var != "" {
		return varMark + s.Var, nil
	}
	return term.Print(s.Term)
}

// tailWords are those behind the parts.
func tailWords(q api.Query) []string {
	var words []string
	if q.Order != "" {
		words = append(words, orderWord, varMark+q.Order)
	}
	if q.Down {
		words = append(words, downWord)
	}
	if q.Limit != noLimit {
		words = append(words, limitWord, strconv.Itoa(q.Limit))
	}
	return words
}
