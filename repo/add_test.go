package repo_test

import (
	"errors"
	"math"
	"slices"
	"strings"
	"testing"
	"unsafe"

	"strataweb/api"
	"strataweb/repo"
)

// What an Add is made of, written out: no branch leads to it, and what is committed likewise comes to it.
func TestAdd(t *testing.T) {
	r := repo.New()
	n, err := r.Add(nil, "\x00\x01\x01\x01a\x01\x01a\x01\x01a\x00\x00", "root")
	wantNumber(t, "Add", n, err, 0, api.OK)
	n, err = r.Add([]int{0}, "\x00\x00\x00\x01\x01\x01a\x01\x01a\x01\x01a", "none")
	wantNumber(t, "Add", n, err, 1, api.OK)
	if got := r.Refs(); len(got) != 0 {
		t.Errorf("Refs() = %v, want none", got)
	}
	g, err := r.Graph(0)
	wantSet(t, 0, g, err, list("aaa"))
	g, err = r.Graph(1)
	wantSet(t, 1, g, err, nil)
	if got := r.Commits()[1]; !slices.Equal(got.Parents, []int{0}) || got.Layer != 2 || got.Message != "none" {
		t.Errorf("commit 1 = %v", got)
	}
	n, err = r.Commit("a", list("aaa"), "root")
	wantNumber(t, "Commit", n, err, 0, api.OK)
	n, err = r.Commit("a", nil, "none")
	wantNumber(t, "Commit", n, err, 1, api.OK)
}

func TestAddLikeOthers(t *testing.T) {
	x := apart(t)
	x.add(t, nil, list("aaa"), "root")
	x.add(t, []int{0}, list("aaa", "ccc"), "right")
	x.held(t)
	x.add(t, []int{0}, list("aaa", "ccc"), "left")
	x.add(t, []int{1, 2}, list("aaa"), "j")
	x.add(t, []int{2, 1}, list("aaa"), "j")
	x.add(t, nil, nil, "")
	x.held(t)
	if got := x.join(t, "a", 2, list("aaa"), "j"); got != 5 {
		t.Errorf("Join came to %d, want what was added, 5", got)
	}
	x.held(t)
}

// Branches need not have room: it is on none.
func TestAddMostNames(t *testing.T) {
	x := started()
	for i, name := range eight() {
		x.commit(t, name, span(i, i+1), "m")
	}
	x.add(t, []int{7}, span(8, 9), "m")
	x.add(t, nil, span(8, 9), "m")
	x.held(t)
}

// wantNoAdd fails unless just this error is told.
func wantNoAdd(t *testing.T, r *repo.Repo, parents []int, change, message string, want api.Errno) {
	t.Helper()
	n, err := r.Add(parents, change, message)
	wantNumber(t, parents, n, err, 0, want)
}

// Of several faults the first is told: the parents' and the Message's as chapter 10 says, the bytes', the Layer's, and then what is full. With any of them all is as it was.
func TestAddTellsFirst(t *testing.T) {
	long := strings.Repeat("\n", api.MaxText+1)
	for _, x := range []both{apart(t), fullApart(t)} {
		size := len(x.m.commits)
		for _, b := range []string{"", "x", change(nil, list("bbb")), change(list("bbb"), nil), change(nil, list("new"))} {
			wantNoAdd(t, x.r, []int{0, 1, 2}, b, "\n", api.ErrFull)
			wantNoAdd(t, x.r, []int{-1}, b, long, api.ErrFull)
			for _, p := range beyond(size) {
				wantNoAdd(t, x.r, []int{p}, b, "\n", api.ErrRange)
				wantNoAdd(t, x.r, []int{1, p}, b, "\n", api.ErrRange)
				wantNoAdd(t, x.r, []int{p, p}, b, "m", api.ErrRange)
			}
			wantNoAdd(t, x.r, []int{1, 1}, b, "\n", api.ErrClash)
			wantNoAdd(t, x.r, []int{1}, b, "\n", api.ErrSyntax)
		}
		for _, parents := range [][]int{nil, {1}, {1, 2}} {
			wantNoAdd(t, x.r, parents, "", "m", api.ErrShort)
			wantNoAdd(t, x.r, parents, change(nil, list("bbb"))+"x", "m", api.ErrSyntax)
			wantNoAdd(t, x.r, parents, setBytes(list("bbb"))+setBytes(list("bbb")), "m", api.ErrSyntax)
			wantNoAdd(t, x.r, parents, change(list("ccc"), nil), "m", api.ErrNone)
		}
		wantNoAdd(t, x.r, []int{1}, change(nil, list("bbb")), "m", api.ErrClash)
		x.held(t)
	}
}

func TestAddFull(t *testing.T) {
	x := fullApart(t)
	wantNoAdd(t, x.r, nil, change(nil, list("new")), "m", api.ErrFull)
	x.held(t)
	// What is there already is not one more.
	x.add(t, []int{0}, list("aaa", "bbb"), "left")
	x.held(t)
	x = started()
	x.add(t, nil, wide(0, most), "m")
	x.add(t, nil, wide(most, 2*most), "m")
	x.add(t, nil, wide(2*most, 3*most), "m")
	wantNoAdd(t, x.r, nil, change(nil, wide(3*most, 4*most)), "m", api.ErrFull)
	wantNoAdd(t, x.r, []int{0}, change(nil, list("aaa")), "m", api.ErrFull)
	x.held(t)
}

// What is handed in is not kept: neither the list nor the texts.
func TestAddKeepsNoMemory(t *testing.T) {
	x := apart(t)
	parents := []int{1, 2, 9}
	bytes := []byte(change(nil, list("new")))
	message := []byte("mm")
	n, err := x.r.Add(parents[:2], unsafe.String(&bytes[0], len(bytes)), unsafe.String(&message[0], len(message)))
	wantNumber(t, "Add", n, err, 4, api.OK)
	if !slices.Equal(parents, []int{1, 2, 9}) {
		t.Errorf("the list is %v now", parents)
	}
	clear(parents)
	clear(bytes)
	clear(message)
	x.add(t, []int{1, 2}, list("aaa", "bbb", "new"), "mm")
	if got := x.r.Commits()[4]; !slices.Equal(got.Parents, []int{1, 2}) || got.Message != "mm" {
		t.Errorf("commit 4 = %v", got)
	}
	if b, err := x.r.Object(5); err != nil || b != change(nil, list("new")) {
		t.Errorf("Object(5) = %x, %v", b, err)
	}
}

// With an error all is as it was, numbers that were given too; without one all is as it is with what the steps had.
func TestAllOrNone(t *testing.T) {
	x := apart(t)
	wrong := errors.New("wrong")
	for _, err := range []error{wrong, api.ErrFull} {
		got := x.r.AllOrNone(func(r *repo.Repo) error {
			y := both{r, &model{slices.Clone(x.m.commits), slices.Clone(x.m.objects), slices.Clone(x.m.refs)}}
			y.commit(t, "a", list("new"), "m")
			y.commit(t, "new", list("old"), "m")
			y.join(t, "b", 0, nil, "j")
			y.move(t, "c", 3, 0)
			y.drop(t, "b")
			y.held(t)
			return err
		})
		if got != err {
			t.Errorf("told %v, want %v", got, err)
		}
		x.held(t)
	}
	x.commit(t, "a", list("zzz"), "m")
	x.held(t)
	err := x.r.AllOrNone(func(r *repo.Repo) error {
		y := both{r, x.m}
		y.commit(t, "a", list("new"), "m")
		y.branch(t, "new", 0)
		y.drop(t, "b")
		return nil
	})
	wantTold(t, "AllOrNone", err, api.OK)
	x.held(t)
	x.commit(t, "new", list("old"), "m")
	x.held(t)
	wantTold(t, "no steps", x.r.AllOrNone(func(*repo.Repo) error { return nil }), api.OK)
	x.held(t)
}

// Steps that are none of the last ones are taken back with them.
func TestAllOrNoneWithin(t *testing.T) {
	x := apart(t)
	err := x.r.AllOrNone(func(r *repo.Repo) error {
		if err := r.AllOrNone(func(r *repo.Repo) error { return r.Drop("a") }); err != nil {
			return err
		}
		return r.Branch("b", math.MaxInt)
	})
	wantTold(t, "within", err, api.ErrRange)
	x.held(t)
}
