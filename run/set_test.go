package run_test

import (
	"strconv"
	"strings"
	"testing"

	"strataweb/api"
)

// The set is new behind what changes it, and old behind what leaves it as it was.
func TestAddTake(t *testing.T) {
	wantSession(t,
		step{"size", "0"},
		step{"take a p a", "old"},
		step{"size", "0"},
		step{"add a p a", "new"},
		step{"add a p a", "old"},
		step{"size", "1"},
		step{`add a p "a"`, "new"},
		step{`add a p "a"@en`, "new"},
		step{"add a p _a", "new"},
		step{"add _a p a", "new"},
		step{"add a a p", "new"},
		step{"size", "6"},
		step{"take a p b", "old"},
		step{"size", "6"},
		step{"take a p _a", "new"},
		step{"take a p _a", "old"},
		step{"size", "5"},
		step{`add a p "a"@en`, "old"},
		step{"take a p a", "new"},
		step{`take a p "a"`, "new"},
		step{`take a p "a"@en`, "new"},
		step{"take _a p a", "new"},
		step{"take a a p", "new"},
		step{"size", "0"},
		step{"take a a p", "old"},
		step{"add a a p", "new"},
		step{"size", "1"},
	)
}

// A text's quotes may have anything in them that a line may.
func TestAddTexts(t *testing.T) {
	for _, said := range []string{`""`, `" "`, `"a b"`, `"a b c "@en`, `"\""`, `"\\"@de`, `"size"`, `"add a p a"`, `"a;b,c=d-"`, `"` + strings.Repeat("a", api.MaxText) + `"`, `"` + strings.Repeat(`\"`, api.MaxText) + `"@en`} {
		wantSession(t,
			step{"add a p " + said, "new"},
			step{"add a p " + said, "old"},
			step{"ask select ?o where a p ?o", said},
			step{"take a p " + said, "new"},
			step{"size", "0"})
	}
}

// Whatever order they come in, a set is one.
func TestAddAnyOrder(t *testing.T) {
	for _, l := range [][]string{{"a p a", "b p a", "c p a"}, {"c p a", "b p a", "a p a"}, {"b p a", "c p a", "a p a"}, {"b p a", "a p a", "c p a"}} {
		wantSession(t, append(allNew(l...),
			step{"ask select ?s where ?s p a", "a;b;c"},
			step{"take b p a", "new"},
			step{"ask select ?s where ?s p a", "a;c"},
			step{"add a p a", "old"})...)
	}
}

// A set that is full takes no more; what it has is no more, and what is taken makes room for one.
func TestSetFull(t *testing.T) {
	full := added(shorts(api.MaxSet))
	filled := strings.Repeat("new\n", api.MaxSet)
	for _, rest := range [][]step{
		{{"size", "200"}},
		{{"add z z z", "ErrFull"}, {"size", "200"}},
		{{"add " + short(0), "old"}, {"add " + short(api.MaxSet-1), "old"}, {"add a a A", "ErrSyntax"}, {`add "a" a a`, "ErrShape"}},
		{{"add z z z", "ErrFull"}, {"take z z z", "old"}, {"take " + short(7), "new"}, {"size", "199"}, {"add z z z", "new"}, {"add " + short(7), "ErrFull"}, {"add z z z", "old"}},
		{{"add z z z", "ErrFull"}, {"commit m", "0"}, {"load m", "200"}, {"add z z z", "ErrFull"}, {"give m", "0"}, {"twin", "m=200"}},
	} {
		text, want := full, filled
		for _, s := range rest {
			text += s.line + "\n"
			want += s.answer + "\n"
			wantRun(t, text, want)
		}
	}
}

// The triples of each kind of term that the questions are asked of.
func people() []step {
	return allNew("ann knows bob", "ann knows cid", "bob knows cid", "_x knows ann", `ann says "hi; you"@en`, `bob says "-"`, `cid says ""`, "cid x:likes/1.a cid")
}

func TestAsk(t *testing.T) {
	for ask, want := range map[string]string{
		"select ?x where ann knows ?x":                                                    "bob;cid",
		"select ?x where ann knows ?x order ?x down":                                      "cid;bob",
		"select ?x where ann knows ?x limit 1":                                            "bob",
		"select ?x where ann knows ?x order ?x down limit 1":                              "cid",
		"select ?x where ann knows ?x limit 0":                                            "-",
		"select ?x where bob knows ann and ?x knows bob":                                  "-",
		"select ?x ?y where ?x knows ?y":                                                  "ann bob;ann cid;bob cid;_x ann",
		"select ?y ?x where ?x knows ?y":                                                  "ann _x;bob ann;cid ann;cid bob",
		"select ?y where ?x knows ?y":                                                     "ann;bob;cid;cid",
		"select distinct ?y where ?x knows ?y":                                            "ann;bob;cid",
		"select distinct ?y where ?x knows ?y order ?y down limit 2":                      "cid;bob",
		"select ?x ?y where ?x knows ?y order ?y down":                                    "ann cid;bob cid;ann bob;_x ann",
		"select ?x ?t where ?x says ?t":                                                   `ann "hi; you"@en;bob "-";cid ""`,
		`select ?x where ?x says "hi; you"@en`:                                            "ann",
		`select ?x where ?x says "hi; you"`:                                               "-",
		`select ?x where ?x says ""`:                                                      "cid",
		`select ?t where bob says ?t`:                                                     `"-"`,
		"select ?x where ?x ?p ?x":                                                        "cid",
		"select ?p where ?x ?p ?x":                                                        "x:likes/1.a",
		"select ?x ?y ?t where ?x knows ?y and ?y says ?t":                                `ann bob "-";ann cid "";bob cid "";_x ann "hi; you"@en`,
		"select ?x ?y ?z where ?x knows ?y and ?y knows ?z":                               "ann bob cid;_x ann bob;_x ann cid",
		"select ?p where ann ?p ?x and bob ?p ?y and cid ?p ?z":                           "says",
		"select ?s where ?s knows ?a and ?s knows ?b and ?a knows ?b":                     "ann",
		"select ?x where ?x p a":                                                          "-",
		"select ?a ?b ?c ?d where ?a knows ?b and ?c says ?d order ?d limit 1":            `ann bob cid ""`,
		"select distinct ?x where ?x ?a ?b and ?x ?c ?d":                                  "ann;bob;cid;_x",
		"select ?w where _x knows ?w and ?w knows ?v and ?v knows cid and ?w says ?t":     "ann",
		"select ?k where ?x ?k ?y and ?k ?k ?k":                                           "-",
		"select ?limit where ann knows ?limit order ?limit limit 1":                       "bob",
		"select distinct ?distinct where ?where knows ?distinct order ?distinct limit 01": "ErrSyntax",
	} {
		wantSession(t, append(people(), step{"ask " + ask, want}, step{"size", "8"})...)
	}
}

// Nothing is said: nobody is told.
func TestAskNothing(t *testing.T) {
	wantSession(t,
		step{"ask select ?x where ?x p a", "-"},
		step{"ask select ?x ?y ?z where ?x ?y ?z", "-"},
		step{"add a p a", "new"},
		step{"ask select ?x ?y ?z where ?x ?y ?z", "a p a"},
		step{"take a p a", "new"},
		step{"ask select ?x ?y ?z where ?x ?y ?z", "-"})
}

// What Check tells of a question is told, whatever the set is; then that there are too many answers, though few would be told.
func TestAskFull(t *testing.T) {
	for size, want := range map[int]string{22: "a", 23: "ErrFull"} {
		text := added(shorts(size))
		filled := strings.Repeat("new\n", size)
		wantRun(t, text+"ask select ?x where ?x ?p ?y and ?z ?q ?w limit 1\n", filled+want+"\n")
		wantRun(t, text+"ask select distinct ?y where ?x ?p ?y and ?z ?q ?w\n", filled+want+"\n")
		wantRun(t, text+"ask select ?x where ?x ?p ?y and ?z ?q ?w limit 501\nsize\n", filled+"ErrRange\n"+strconv.Itoa(size)+"\n")
	}
	// All answers that there may be are told, each of them.
	answer := strings.TrimSuffix(strings.Repeat("a;", 484), ";")
	wantRun(t, added(shorts(22))+"ask select ?y where ?x ?p ?y and ?z ?q ?w\n", strings.Repeat("new\n", 22)+answer+"\n")
}
