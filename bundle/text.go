package bundle

import (
	"strconv"
	"strings"

	"strataweb/api"
)

// head begins each text: what somebody else wrote is not taken for one.
const head = "strataweb bundle\n"

// write makes the text of a bundle: needs, objects, commits, how many ahead of them. A number ends with a blank, and ahead of bytes stands how many they are, so they may be any.
func write(b api.Bundle) string {
	out := []byte(head)
	out = addList(out, b.Needs, addText)
	out = addList(out, b.Objects, addText)
	return string(addList(out, b.Commits, addCommit))
}

func addList[T any](b []byte, l []T, addOne func(b []byte, x T) []byte) []byte {
	b = addNumber(b, len(l))
	for _, x := range l {
		b = addOne(b, x)
	}
	return b
}

func addCommit(b []byte, c api.Commit) []byte {
	b = addList(b, c.Parents, addNumber)
	return addText(addNumber(b, c.Layer), c.Message)
}

func addText(b []byte, s string) []byte { return append(addNumber(b, len(s)), s...) }

func addNumber(b []byte, n int) []byte { return append(strconv.AppendInt(b, int64(n), 10), ' ') }

// read makes the bundle of a text that an Export writes.
func read(text string) (api.Bundle, error) {
	b := parse(text)
	if !isExported(b, text) {
		return api.Bundle{}, api.ErrSyntax
	}
	return b, nil
}

// parse makes the bundle that a text may be meant as. It does not tell whether it is: a text that is just what is written of its bundle is, and no other.
func parse(text string) api.Bundle {
	rest, ok := strings.CutPrefix(text, head)
	r := reader{rest: rest, isOver: !ok}
	return api.Bundle{Needs: readList(&r, r.text), Objects: readList(&r, r.text), Commits: readList(&r, r.commit)}
}

// reader reads from the left on, until something cannot be read. What it reads then is of no worth.
type reader struct {
	rest   string
	isOver bool
}

// end ends the reading.
func (r *reader) end() { r.rest, r.isOver = "", true }

// readList reads a list. How many are in it is believed no further than the text goes.
func readList[T any](r *reader, readOne func() T) []T {
	var out []T
	for size := r.number(); len(out) < size && !r.isOver; {
		out = append(out, readOne())
	}
	return out
}

func (r *reader) commit() api.Commit {
	return api.Commit{Parents: readList(r, r.number), Layer: r.number(), Message: r.text()}
}

// text reads bytes into memory of their own: what is read keeps no long text alive.
func (r *reader) text() string {
	size := r.number()
	if size < 0 || size > len(r.rest) {
		r.end()
		return ""
	}
	out := strings.Clone(r.rest[:size])
	r.rest = r.rest[size:]
	return out
}

func (r *reader) number() int {
	word, rest, found := strings.Cut(r.rest, " ")
	n, err := strconv.Atoi(word)
	if !found || err != nil {
		r.end()
		return 0
	}
	r.rest = rest
	return n
}
