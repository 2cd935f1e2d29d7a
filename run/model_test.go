package run_test

import (
	"fmt"
	"maps"
	"math/rand"
	"regexp"
	"slices"
	"strconv"
	"strings"
	"testing"

	"strataweb/api"
	"strataweb/ask"
	"strataweb/plain"
	"strataweb/repo"
	"strataweb/run"
	"strataweb/solve"
	"strataweb/sync"
	"strataweb/term"
	"strataweb/triple"
)

// model is what a session should have: the set by the texts of its triples.
type model struct {
	set      map[string]api.Triple
	one, two *repo.Repo
}

// answers are those that a text should have.
func answers(text string) string {
	if len([]byte(text)) > 3000 {
		return "too long\n"
	}
	m := &model{map[string]api.Triple{}, repo.New(), repo.New()}
	l := strings.Split(text, "\n")
	if l[len(l)-1] == "" {
		l = l[:len(l)-1]
	}
	out := ""
	for _, line := range l {
		out += m.answer(line) + "\n"
	}
	return out
}

var row = regexp.MustCompile(`^(?s)(add|take|ask|commit|load|push|pull|give) (.*)$`)

func (m *model) answer(line string) string {
	switch line {
	case "size":
		return strconv.Itoa(len(m.set))
	case "twin":
		return m.twin()
	}
	found := row.FindStringSubmatch(line)
	if found == nil {
		return "bad"
	}
	rest := found[2]
	switch found[1] {
	case "add", "take":
		return m.change(found[1] == "add", rest)
	case "ask":
		return m.ask(rest)
	case "commit":
		return told(m.one.Commit(rest, m.sorted(), ""))
	case "give":
		return told(m.two.Commit(rest, m.sorted(), ""))
	case "push":
		return told(sync.Push(m.one, m.two, rest))
	case "pull":
		return told(sync.Pull(m.one, m.two, rest, "m"))
	}
	return m.load(rest)
}

// told is a number, or the error's name.
func told(n int, err error) string {
	names := strings.Fields("OK ErrRange ErrSyntax ErrShape ErrFull ErrNone ErrState ErrClash ErrShort ErrSides")
	if number := plain.Told(err); number != api.OK {
		return names[number]
	}
	return strconv.Itoa(n)
}

func (m *model) sorted() []api.Triple {
	return slices.SortedFunc(maps.Values(m.set), triple.Compare)
}

func (m *model) change(isAdd bool, text string) string {
	x, err := triple.Parse(text)
	if err != nil {
		return told(0, err)
	}
	if _, ok := m.set[text]; ok == isAdd {
		return "old"
	}
	if isAdd && len(m.set) == 200 {
		return "ErrFull"
	}
	if isAdd {
		m.set[text] = x
	} else {
		delete(m.set, text)
	}
	return "new"
}

func (m *model) ask(text string) string {
	q, _, err := ask.Parse(text)
	if err != nil {
		return told(0, err)
	}
	rows, err := solve.Solve(m.sorted(), q)
	if err != nil {
		return told(0, err)
	}
	out := ""
	for i, row := range rows {
		for j, x := range row {
			said, _ := term.Print(x)
			switch {
			case j > 0:
				out += " "
			case i > 0:
				out += ";"
			}
			out += said
		}
	}
	if len(rows) == 0 {
		return "-"
	}
	return out
}

func (m *model) load(name string) string {
	at, err := m.one.Head(name)
	if err != nil {
		return told(0, err)
	}
	graph, err := m.one.Graph(at)
	if err != nil {
		return told(0, err)
	}
	m.set = map[string]api.Triple{}
	for _, x := range graph {
		said, _ := triple.Print(x)
		m.set[said] = x
	}
	return strconv.Itoa(len(m.set))
}

func (m *model) twin() string {
	out := ""
	for i, ref := range m.two.Refs() {
		graph, _ := m.two.Graph(ref.Commit)
		if i > 0 {
			out += ","
		}
		out += fmt.Sprint(ref.Name, "=", len(graph))
	}
	if out == "" {
		return "-"
	}
	return out
}

// wantModel fails unless a text has the answers that it should have, each a line, and its first lines the first of them.
func wantModel(t testing.TB, text string) {
	t.Helper()
	got := run.Run(text)
	if want := answers(text); got != want {
		t.Fatalf("%q: got %q, want %q", text, got, want)
	}
	if len(text) > api.MaxRun {
		return
	}
	cut := 0
	for i, c := range []byte(text) {
		if c != '\n' {
			continue
		}
		// The answers to so many lines are so many lines.
		cut += strings.Index(got[cut:], "\n") + 1
		if first := run.Run(text[:i+1]); first != got[:cut] {
			t.Fatalf("%q: got %q to the first lines, %q to all", text[:i+1], first, got)
		}
	}
}

// madeUp makes a line: most are right, and go about few triples and branches.
func madeUp(r *rand.Rand) string {
	pick := func(of ...string) string { return of[r.Intn(len(of))] }
	name := pick("m", "m", "m", "n", "n", "k", "abcdefghij", "", "X", "m ", "abcdefghijk")
	said := pick("a", "b", "_a") + " " + pick("p", "q") + " " + pick("a", "b", `"a b"@en`, `"\""`)
	switch r.Intn(60) {
	case 0:
		return pick("", " ", "fly", "size ", "twin m", "add", "ask", "load", "give\tm", "\xff", "Size")
	case 1:
		return pick("add ", "take ") + pick("", "a", "a p", "a p a a", `"a" p a`, "a _p a", "a p "+strings.Repeat("a", 25), "a  p a", `a p "a`)
	case 2:
		return "ask " + pick("", "select", "select ?x where ?y p a", "select ?x ?x where ?x p a", "select ?x where ?x p a limit 501", "select ?x where ?x p a limit", "x")
	}
	switch r.Intn(10) {
	case 0, 1, 2:
		return "add " + said
	case 3:
		return "take " + said
	case 4:
		return "ask " + pick("select ?x ?y where ?x p ?y", "select distinct ?x where ?x ?y ?z order ?x down", "select ?z where a ?y ?z limit 2", "select ?x ?y ?z where ?x ?y ?z", "select ?z where ?x p ?y and ?y q ?z", "select ?x where ?x ?p ?y and ?z ?q ?w and ?a ?b ?c")
	case 5:
		return pick("size", "twin")
	}
	return pick("commit", "commit", "load", "push", "pull", "give") + " " + name
}

// Made-up sessions: of each, all that can be answered is met.
func TestMadeUp(t *testing.T) {
	met := map[string]int{}
	for seed := range 150 {
		r := rand.New(rand.NewSource(int64(seed)))
		text := ""
		for line := ""; len(text)+len(line) <= api.MaxRun && r.Intn(100) > 0; line = madeUp(r) + "\n" {
			text += line
		}
		if got, want := run.Run(text), answers(text); got != want {
			t.Fatalf("%q: got %q, want %q", text, got, want)
		}
		if seed%10 == 0 {
			wantModel(t, text)
		}
		meet(met, text)
	}
	for _, want := range strings.Split("add new,add old,add ErrSyntax,add ErrFull,add ErrShape,take new,take old,ask -,ask ErrSyntax,ask ErrNone,ask ErrClash,ask ErrRange,ask ErrFull,commit 7,commit ErrSyntax,load 3,load ErrNone,load ErrSyntax,push 5,push ErrNone,push ErrState,pull 5,pull ErrNone,pull ErrState,pull ErrSides,give 5,give ErrSyntax,twin -,size 3", ",") {
		if met[want] == 0 {
			t.Errorf("no line is answered so: %s", want)
		}
	}
}

// meet counts the words and their answers.
func meet(met map[string]int, text string) {
	told := strings.Split(run.Run(text), "\n")
	for i, line := range strings.Split(strings.TrimSuffix(text, "\n"), "\n") {
		word, _, _ := strings.Cut(line, " ")
		met[word+" "+told[i]]++
	}
}

func FuzzRun(f *testing.F) {
	for _, text := range []string{
		"", "\n", "size", "size\n\n", "add a p a\nadd a p a\ntake a p a\nsize\n",
		"add a p \"x y\"@en\nask select ?x where a p ?x\nask select ?x where ?y p a\n",
		"commit m\npush m\nadd a p a\ncommit m\ntake a p a\nadd b p b\ngive m\npull m\ntwin\nload m\n",
		"add \nask \ncommit \nload \npush \npull \ngive \nsize \ntwin \n",
	} {
		f.Add(text)
	}
	f.Fuzz(func(t *testing.T, text string) { wantModel(t, text) })
}

// FuzzSession makes up sessions of right lines by its bytes, since few texts are any.
func FuzzSession(f *testing.F) {
	f.Add(int64(1), 20)
	f.Add(int64(2), 100)
	f.Fuzz(func(t *testing.T, seed int64, size int) {
		r := rand.New(rand.NewSource(seed))
		text := ""
		for range max(0, size) % 200 {
			text += madeUp(r) + "\n"
		}
		wantModel(t, text)
	})
}
