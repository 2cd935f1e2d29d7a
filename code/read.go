package code

import (
	"strings"

	"strataweb/api"
	"strataweb/term"
)

// fault is what ended a reading: OK, as long as nothing has.
type fault struct{ api.Errno }

// reader reads from the left on. Behind a fault there is nothing for it any more, so what it reads then is of no worth.
type reader struct {
	fault
	rest string
}

// whole reads all of b as one thing; read answers that, and what is wrong with it as a whole.
func whole[T any](b string, read func(r *reader) (T, error)) (T, error) {
	r := reader{rest: b}
	out, wrong := read(&r)
	if wrong != nil || r.rest != "" {
		r.end(api.ErrSyntax)
	}
	if r.Errno != api.OK {
		var none T
		return none, r.Errno
	}
	return out, nil
}

// end ends the reading. The first fault is the one that is told.
func (r *reader) end(why api.Errno) {
	if r.Errno == api.OK {
		r.fault = fault{why}
	}
	r.rest = ""
}

// take reads so many bytes, into memory of their own: what is read keeps no long text alive.
func (r *reader) take(size int) string {
	if size > len(r.rest) {
		r.end(api.ErrShort)
		return ""
	}
	out := strings.Clone(r.rest[:size])
	r.rest = r.rest[size:]
	return out
}

// number reads a number of so many bytes, the high one first.
func (r *reader) number(size int) int {
	n := 0
	for _, b := range []byte(r.take(size)) {
		n = n<<8 | int(b)
	}
	return n
}

// kind reads a byte of a Kind, and tells how many bytes of a Lang follow. A byte that is none's is a fault where it stands, ahead of what may be missing behind it.
func (r *reader) kind() (kind, langBytes int) {
	kind = r.number(1)
	// Just a Text may have a Lang: no other Kind has a byte that is so much more.
	if kind == api.Text+langMark {
		return api.Text, langSize
	}
	if kind < api.Name || kind > api.Text {
		r.end(api.ErrSyntax)
	}
	return kind, 0
}

func (r *reader) term() api.Term {
	kind, langBytes := r.kind()
	lang := r.take(langBytes)
	t := api.Term{Kind: kind, S: r.take(r.number(1)), Lang: lang}
	if term.Check(t) != nil {
		r.end(api.ErrSyntax)
	}
	return t
}

func (r *reader) set() []api.Triple {
	size := r.number(2)
	if size > api.MaxSet {
		r.end(api.ErrSyntax)
	}
	var l []api.Triple
	// How many there are is believed no further than the bytes go.
	for len(l) < size && r.Errno == api.OK {
		l = append(l, api.Triple{S: r.term(), P: r.term(), O: r.term()})
	}
	return l
}
