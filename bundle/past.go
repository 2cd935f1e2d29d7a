package bundle

import (
	"maps"
	"slices"

	"strataweb/api"
	"strataweb/repo"
)

// past is what a Repo's commits are, looked up once.
type past struct {
	repo    *repo.Repo
	commits []api.Commit
}

func pastOf(r *repo.Repo) past { return past{repo: r, commits: r.Commits()} }

// name is the text of a commit and of all that it came of, in an order that hangs on these alone, not on their numbers: each Repo gives its own. Two are the same just if Layers, Messages and parents are, all the way back; and behind the same graph Layers are the same just if graphs are. (A text that had the parents' own in it would be twice as long behind each Join.)
func (p past) name(at int) string { return write(p.pack(p.lineage(at))) }

// lineage are a commit's ancestors, each once and behind its parents, the first parent's ahead of the second's; itself is the last.
func (p past) lineage(at int) []int {
	var out []int
	var visit func(at int)
	visit = func(at int) {
		if slices.Contains(out, at) {
			return
		}
		for _, parent := range p.commits[at].Parents {
			visit(parent)
		}
		out = append(out, at)
	}
	visit(at)
	return out
}

// pack makes a bundle of these commits, none of which is ahead of a parent.
func (p past) pack(carried []int) api.Bundle {
	// What a commit is called in the bundle, and an object.
	places, objects := map[int]int{}, map[int]int{}
	for i, at := range carried {
		places[at] = i
	}
	b := api.Bundle{Needs: p.needs(carried, places)}
	for _, at := range carried {
		c := p.commits[at]
		if _, ok := objects[c.Layer]; !ok {
			b.Objects = append(b.Objects, p.object(c.Layer))
			objects[c.Layer] = len(b.Objects)
		}
		own := api.Commit{Layer: objects[c.Layer], Message: c.Message}
		for _, parent := range c.Parents {
			own.Parents = append(own.Parents, places[parent])
		}
		b.Commits = append(b.Commits, own)
	}
	return b
}

// needs are the names of the parents that have no place among the carried, rising. They are given places, below 0.
func (p past) needs(carried []int, places map[int]int) []string {
	needs := map[string]int{}
	for _, at := range carried {
		for _, parent := range p.commits[at].Parents {
			if _, ok := places[parent]; !ok {
				needs[p.name(parent)] = parent
			}
		}
	}
	names := slices.Sorted(maps.Keys(needs))
	for i, name := range names {
		places[needs[name]] = -1 - i
	}
	return names
}

// object tells the bytes of a commit's Layer. They are there: what a commit has is never let go of.
func (p past) object(id int) string {
	b, _ := p.repo.Object(id)
	return b
}
