// Package term has what is spoken of.
package term

import (
	"cmp"
	"strings"

	"strataweb/api"
)

// langSize is how many letters a Lang has that is not empty.
const langSize = 2

// Check tells what is wrong with a term.
func Check(t api.Term) error {
	switch {
	case !isKind(t.Kind):
		return api.ErrRange
	case tooLong(t):
		return api.ErrFull
	case !spelled(t):
		return api.ErrSyntax
	}
	return nil
}

// Compare terms.
func Compare(a, b api.Term) int {
	return cmp.Or(
		cmp.Compare(a.Kind, b.Kind),
		strings.Compare(a.S, b.S),
		strings.Compare(a.Lang, b.Lang),
	)
}

// Print a term.
func Print(t api.Term) (string, error) {
	if err := Check(t); err != nil {
		return "", err
	}
	switch t.Kind {
	case api.Anon:
		return "_" + t.S, nil
	case api.Text:
		return quote(t.S) + langMark(t.Lang), nil
	}
	return strings.Clone(t.S), nil
}

// Parse a term.
func Parse(text string) (api.Term, error) {
	t, err := ParseAnyLength(text)
	if err != nil {
		return api.Term{}, err
	}
	// Unlike in Check, a wrong byte weighs more here than a text that is too long.
	if tooLong(t) {
		return api.Term{}, api.ErrFull
	}
	return t, nil
}

// ParseAnyLength parses a term whose S may be too long: who reads several terms must know of what kind such a one is, to tell what else is wrong with them.
func ParseAnyLength(text string) (api.Term, error) {
	t, ok := read(text)
	if !ok || !spelled(t) {
		return api.Term{}, api.ErrSyntax
	}
	return t, nil
}

func isKind(kind int) bool {
	return kind == api.Name || kind == api.Anon || kind == api.Text
}

func tooLong(t api.Term) bool {
	return len(t.S) > api.MaxText
}

// spelled tells whether S and Lang are those of the term's Kind, however long S is.
func spelled(t api.Term) bool {
	switch t.Kind {
	case api.Name:
		return t.Lang == "" && isName(t.S)
	case api.Anon:
		return t.Lang == "" && isAnon(t.S)
	case api.Text:
		return (t.Lang == "" || isLang(t.Lang)) && isText(t.S)
	}
	return false
}

func isName(s string) bool {
	return s != "" && isLetter(s[0]) && every(s, func(b byte) bool {
		return isLetter(b) || isDigit(b) || b == ':' || b == '/' || b == '.'
	})
}

func isAnon(s string) bool {
	return s != "" && every(s, func(b byte) bool {
		return isLetter(b) || isDigit(b)
	})
}

func isText(s string) bool {
	return every(s, func(b byte) bool {
		return 32 <= b && b <= 126
	})
}

func isLang(s string) bool {
	return len(s) == langSize && every(s, isLetter)
}

func isLetter(b byte) bool {
	return 'a' <= b && b <= 'z'
}

func isDigit(b byte) bool {
	return '0' <= b && b <= '9'
}

// every goes by bytes, not by runes: texts are bytes.
func every(s string, right func(b byte) bool) bool {
	for i := range len(s) {
		if !right(s[i]) {
			return false
		}
	}
	return true
}
