package triple

import (
	"strings"

	"strataweb/api"
	"strataweb/term"
)

// printTerms writes terms with a blank between.
func printTerms(terms ...api.Term) (string, error) {
	words := make([]string, len(terms))
	for i, x := range terms {
		word, err := term.Print(x)
		if err != nil {
			return "", err
		}
		words[i] = word
	}
	return strings.Join(words, " "), nil
}

// cut finds the texts of three terms. The third is all that is left: a blank too many in it is for the term's reading to tell.
func cut(text string) ([3]string, bool) {
	s, rest, ok := cutWord(text)
	if !ok {
		return [3]string{}, false
	}
	p, o, ok := cutWord(rest)
	if !ok {
		return [3]string{}, false
	}
	return [3]string{s, p, o}, true
}

// cutWord cuts a text at its first blank that is not between quotes.
func cutWord(text string) (word, rest string, ok bool) {
	from := quotesEnd(text)
	n := strings.IndexByte(text[from:], ' ')
	if n < 0 {
		return "", "", false
	}
	return text[:from+n], text[from+n+1:], true
}

// quotesEnd is the place behind the quotes that a text begins with: 0 if it begins with none, its end if they are left open.
func quotesEnd(text string) int {
	if !strings.HasPrefix(text, `"`) {
		return 0
	}
	for i := 1; i < len(text); i++ {
		switch text[i] {
		case '\\':
			// What is marked ends no quotes.
			i++
		case '"':
			return i + 1
		}
	}
	return len(text)
}
