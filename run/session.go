package run

import (
	"strconv"
	"strings"

	"strataweb/api"
	"strataweb/ask"
	"strataweb/repo"
	"strataweb/set"
	"strataweb/solve"
	"strataweb/sync"
	"strataweb/term"
	"strataweb/triple"
)

// What a line's word has behind it, and what stands in answers.
const (
	blank      = " "
	isNew      = "new"
	isOld      = "old"
	none       = "-"
	answerEnd  = ";"
	branchSize = "="
	branchEnd  = ","
)

// The messages of what is committed, and of what is joined.
const (
	noMessage   = ""
	pullMessage = "m"
)

// session is what lines do things with.
type session struct {
	set      []api.Triple
	one, two *repo.Repo
}

func start() *session { return &session{one: repo.New(), two: repo.New()} }

// do does what a line says, and tells its answer.
func (s *session) do(line string) (string, error) {
	word, rest, hasRest := strings.Cut(line, blank)
	if hasRest {
		return s.doWith(word, rest)
	}
	return s.doAlone(word)
}

// doAlone does what a word says that has nothing behind it, not even a blank.
func (s *session) doAlone(word string) (string, error) {
	switch word {
	case "size":
		return strconv.Itoa(len(s.set)), nil
	case "twin":
		return s.twin()
	}
	return "", errBad
}

// doWith does what a word says with what stands behind its blank, which may be nothing.
func (s *session) doWith(word, rest string) (string, error) {
	switch word {
	case "add":
		return s.change(rest, set.Join)
	case "take":
		return s.change(rest, set.Less)
	case "ask":
		return s.ask(rest)
	case "commit":
		return number(s.one.Commit(rest, s.set, noMessage))
	case "load":
		return number(s.load(rest))
	case "push":
		return number(sync.Push(s.one, s.two, rest))
	case "pull":
		return number(sync.Pull(s.one, s.two, rest, pullMessage))
	case "give":
		return number(s.two.Commit(rest, s.set, noMessage))
	}
	return "", errBad
}

// change makes another set of the set and a triple, and tells whether it is new.
func (s *session) change(text string, made func(a, b []api.Triple) ([]api.Triple, error)) (string, error) {
	t, err := triple.Parse(text)
	if err != nil {
		return "", err
	}
	next, err := made(s.set, []api.Triple{t})
	if err != nil {
		return "", err
	}
	before := len(s.set)
	s.set = next
	if len(next) == before {
		return isOld, nil
	}
	return isNew, nil
}

// ask tells what answers a question.
func (s *session) ask(text string) (string, error) {
	q, _, err := ask.Parse(text)
	if err != nil {
		return "", err
	}
	rows, err := solve.Solve(s.set, q)
	if err != nil {
		return "", err
	}
	var answers []string
	for _, row := range rows {
		said, err := printTerms(row)
		if err != nil {
			return "", err
		}
		answers = append(answers, said)
	}
	return list(answers, answerEnd), nil
}

// load takes a branch's graph as the set, and tells how many it has.
func (s *session) load(name string) (int, error) {
	graph, err := graphOf(s.one, name)
	if err != nil {
		return 0, err
	}
	s.set = graph
	return len(graph), nil
}

// twin tells the branches of two, and how many the graph of each has.
func (s *session) twin() (string, error) {
	var branches []string
	for _, ref := range s.two.Refs() {
		graph, err := s.two.Graph(ref.Commit)
		if err != nil {
			return "", err
		}
		branches = append(branches, ref.Name+branchSize+strconv.Itoa(len(graph)))
	}
	return list(branches, branchEnd), nil
}

// graphOf is the graph of the commit to which a branch leads.
func graphOf(r *repo.Repo, name string) ([]api.Triple, error) {
	at, err := r.Head(name)
	if err != nil {
		return nil, err
	}
	return r.Graph(at)
}

// printTerms writes the terms of one answer.
func printTerms(terms []api.Term) (string, error) {
	words := make([]string, len(terms))
	for i, x := range terms {
		word, err := term.Print(x)
		if err != nil {
			return "", err
		}
		words[i] = word
	}
	return strings.Join(words, blank), nil
}

// number writes what a call tells, if there is no error.
func number(n int, err error) (string, error) {
	if err != nil {
		return "", err
	}
	return strconv.Itoa(n), nil
}

// list writes several things, or that there is none.
func list(things []string, between string) string {
	if len(things) == 0 {
		return none
	}
	return strings.Join(things, between)
}
