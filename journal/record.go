package journal

import (
	"strconv"
	"strings"

	"strataweb/api"
	"strataweb/code"
	"strataweb/repo"
)

// Words of a record for what was done.
const (
	aCommit = "commit"
	aBranch = "branch"
)

// deed is what is done with a Repo: of a Commit its set and message, of a Branch where it leads.
type deed struct {
	kind, name string
	set        []api.Triple
	message    string
	at         int
}

// do it, and tell the number of a Commit.
func (d deed) do(r *repo.Repo) (int, error) {
	if d.kind == aBranch {
		return 0, r.Branch(d.name, d.at)
	}
	return r.Commit(d.name, d.set, d.message)
}

// record of it: how many bytes come, a colon, then these. So a piece of a record is told from a whole one.
func (d deed) record() (string, error) {
	body, err := d.body()
	if err != nil {
		return "", err
	}
	return strconv.Itoa(len(body)) + ":" + body, nil
}

// body of its record. It was done, so there is no blank in its name and no end of a line in its message.
func (d deed) body() (string, error) {
	head := d.kind + " " + d.name + " "
	if d.kind == aBranch {
		return head + strconv.Itoa(d.at), nil
	}
	set, err := code.Set(d.set)
	return head + d.message + "\n" + set, err
}

// parse reads the body of a record.
func parse(body string) (deed, error) {
	kind, rest, _ := strings.Cut(body, " ")
	name, rest, _ := strings.Cut(rest, " ")
	if kind == aBranch {
		at, err := strconv.Atoi(rest)
		return deed{kind: kind, name: name, at: at}, err
	}
	message, rest, _ := strings.Cut(rest, "\n")
	set, err := code.ReadSet(rest)
	return deed{kind: kind, name: name, set: set, message: message}, err
}

// first is the body of the first record of bytes, and how many of them the record has: 0 if it is not whole.
func first(b string) (string, int) {
	digits, rest, _ := strings.Cut(b, ":")
	size, err := strconv.Atoi(digits)
	if err != nil || size > len(rest) {
		return "", 0
	}
	return rest[:size], len(digits) + 1 + size
}

// replay makes the Repo that comes of the whole records of bytes, and tells how many bytes these have.
func replay(b string) (*repo.Repo, int) {
	r := repo.New()
	done := 0
	for {
		body, size := first(b[done:])
		if size == 0 {
			return r, done
		}
		// What was done can be done again. If somebody did more with the Repo than look at it, so that it cannot, it is left out.
		if d, err := parse(body); err == nil {
			d.do(r)
		}
		done += size
	}
}
