package triple

import (
	"strings"

	"strataweb/api"
	"strataweb/term"
)

// printTerms writes terms with a blank between.
func printTerms(terms ...api.Term) (string, error) {
	words := make([]string, len(terms))
	for i, x := range terms {
		word, err := term.Print(x)
		if err != nil {
			return "", err
		}
		words[i] = word
	}
	return strings.Join(words, " "), nil
}

// cut finds the texts of three terms. The third is all that is left: a blank too many in it is for the term's reading to tell.
func cut(text string) ([3]string, bool) {
	s, rest, ok := CutWord(text)
	if !ok {
		return [3]string{}, false
	}
	p, o, ok := CutWord(rest)
	if !ok {
		return [3]string{}, false
	}
	return [3]string{s, p, o}, true
}

// CutWord cuts a text at its first blank that is not between quotes, which begin only where the text does. A text without such a blank is one word, and there are no more then. Questions are cut into words as triples are.
func CutWord(text string) (word, rest string, more bool) {
	from := quotesEnd(text)
	n := strings.IndexByte(text[from:], ' ')
	if n < 0 {
		return text, "", false
	}
	return text[:from+n], text[from+n+1:], true
}

// quotesEnd is the place behind the quotes that a text begins with: 0 if it begins with none, its end if they are left open.
func quotesEnd(text string) int {
	if !strings.HasPrefix(text, `"`) {
		return 0
	}
	for i := 1; i < len(text); i++ {
		switch text[i] {
		case '\\':
			// What is marked ends no quotes.
			i++
		case '"':
			return i + 1
		}
	}
	return len(text)
}
