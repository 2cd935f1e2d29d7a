package term

import (
	"strings"

	"strataweb/api"
)

// quote writes a text between quotes.
func quote(s string) string {
	var out strings.Builder
	out.WriteByte('"')
	for i := range len(s) {
		if isMarked(s[i]) {
			out.WriteByte('\\')
		}
		out.WriteByte(s[i])
	}
	out.WriteByte('"')
	return out.String()
}

// isMarked tells whether a byte has a backslash ahead of it between quotes.
func isMarked(b byte) bool {
	return b == '"' || b == '\\'
}

// langMark writes what stands behind the quotes.
func langMark(lang string) string {
	if lang == "" {
		return ""
	}
	return "@" + lang
}

// read cuts a text into the parts of a term; whether these are right is for spelled to say.
func read(text string) (api.Term, bool) {
	if rest, ok := strings.CutPrefix(text, "_"); ok {
		return api.Term{Kind: api.Anon, S: strings.Clone(rest)}, true
	}
	if rest, ok := strings.CutPrefix(text, `"`); ok {
		return readText(rest)
	}
	return api.Term{Kind: api.Name, S: strings.Clone(text)}, true
}

// readText reads a Text from behind its first quote on.
func readText(rest string) (api.Term, bool) {
	s, behind, ok := unquote(rest)
	if !ok {
		return api.Term{}, false
	}
	lang, ok := readLang(behind)
	if !ok {
		return api.Term{}, false
	}
	return api.Term{Kind: api.Text, S: s, Lang: lang}, true
}

// unquote reads up to the quote that ends a text: the text, and what stands behind that quote.
func unquote(rest string) (s, behind string, ok bool) {
	var out strings.Builder
	for i := 0; i < len(rest); i++ {
		if rest[i] == '"' {
			return out.String(), rest[i+1:], true
		}
		if rest[i] == '\\' {
			i++
			// A mark ahead of any other byte is never written, so it is none of the form.
			if i == len(rest) || !isMarked(rest[i]) {
				return "", "", false
			}
		}
		out.WriteByte(rest[i])
	}
	return "", "", false
}

// readLang reads what stands behind the quotes: an empty Lang has no mark, so a bare one is wrong.
func readLang(behind string) (string, bool) {
	if behind == "" {
		return "", true
	}
	lang, ok := strings.CutPrefix(behind, "@")
	if !ok || !isLang(lang) {
		return "", false
	}
	return strings.Clone(lang), true
}
