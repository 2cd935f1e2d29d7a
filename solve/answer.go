package solve

import (
	"maps"
	"slices"

	"strataweb/api"
	"strataweb/ask"
	"strataweb/match"
	"strataweb/triple"
)

// answer gives variables their terms.
type answer map[string]api.Term

// give gives a variable a term, if it has none: the first one counts.
func (a answer) give(name string, x api.Term) {
	if _, ok := a[name]; !ok {
		a[name] = x
	}
}

// terms are those of some variables, in memory of their own.
func (a answer) terms(names []string) []api.Term {
	out := make([]api.Term, len(names))
	for i, name := range names {
		out[i] = a[name]
	}
	return out
}

// fill makes of a variable that has a term a slot of that; any other slot stays.
func (a answer) fill(s api.Slot) api.Slot {
	if x, ok := a[s.Var]; ok {
		return api.Slot{Term: x}
	}
	return s
}

// answersTo are all answers to a query, and how many there are to its first part, the first two, and so on; or what is wrong.
func answersTo(set []api.Triple, q api.Query) ([]answer, []int, error) {
	if err := triple.Sorted(set); err != nil {
		return nil, nil, err
	}
	if err := ask.Check(q); err != nil {
		return nil, nil, err
	}
	all := []answer{{}}
	var sizes []int
	for _, p := range q.Parts {
		own, err := answersToPart(set, p)
		if err != nil {
			return nil, nil, err
		}
		all = meet(all, own)
		if len(all) > api.MaxAnswers {
			return nil, nil, api.ErrFull
		}
		sizes = append(sizes, len(all))
	}
	return all, sizes, nil
}

// answersToPart are those to a part alone.
func answersToPart(set []api.Triple, p api.Pattern) ([]answer, error) {
	found, err := match.Match(set, p)
	if err != nil {
		return nil, err
	}
	out := make([]answer, len(found))
	for i, t := range found {
		out[i] = answerOf(p, t)
	}
	return out, nil
}

// answerOf is the one by which a pattern is a triple that matches it.
func answerOf(p api.Pattern, t api.Triple) answer {
	a := answer{}
	slots := [...]api.Slot{p.S, p.P, p.O}
	for i, x := range [...]api.Term{t.S, t.P, t.O} {
		if name := slots[i].Var; name != "" {
			a[name] = x
		}
	}
	return a
}

// meet makes one of each of a and each of b that give the variables that they share the same terms. No two of a list are equal, nor are two that come of them. It ends where there are too many.
func meet(a, b []answer) []answer {
	if len(a) == 0 || len(b) == 0 {
		return nil
	}
	key := keyer(a[0], b[0])
	byKey := map[[3]api.Term][]answer{}
	for _, y := range b {
		k := key(y)
		byKey[k] = append(byKey[k], y)
	}
	var out []answer
	for _, x := range a {
		for _, y := range byKey[key(x)] {
			out = append(out, both(x, y))
			if len(out) > api.MaxAnswers {
				return out
			}
		}
	}
	return out
}

// keyer makes the question which terms an answer gives to the variables that these two share: all of a list have the same ones, and a part has at most three.
func keyer(x, y answer) func(a answer) [3]api.Term {
	var shared []string
	for name := range y {
		if _, ok := x[name]; ok {
			shared = append(shared, name)
		}
	}
	slices.Sort(shared)
	return func(a answer) [3]api.Term {
		var out [3]api.Term
		copy(out[:], a.terms(shared))
		return out
	}
}

// both gives the variables of two answers their terms.
func both(x, y answer) answer {
	out := maps.Clone(x)
	maps.Copy(out, y)
	return out
}
