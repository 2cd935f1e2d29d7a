package bundle_test

import (
	"slices"
	"strconv"
	"strings"
	"testing"

	"strataweb/api"
	"strataweb/bundle"
	"strataweb/code"
	"strataweb/plain"
	"strataweb/repo"
)

// written makes a text of needs, objects and commits, right or not.
func written(needs, objects, commits []string) string {
	out := "strataweb bundle\n"
	for _, l := range [][]string{needs, objects} {
		out += strconv.Itoa(len(l)) + " "
		for _, s := range l {
			out += counted(s)
		}
	}
	return out + strconv.Itoa(len(commits)) + " " + strings.Join(commits, "")
}

// counted writes bytes behind how many they are.
func counted(s string) string { return strconv.Itoa(len(s)) + " " + s }

// one writes a commit: its parents, its Layer, its Message.
func one(l int, message string, parents ...int) string {
	out := strconv.Itoa(len(parents)) + " "
	for _, n := range append(parents, l) {
		out += strconv.Itoa(n) + " "
	}
	return out + counted(message)
}

// change writes a Layer as bytes.
func change(t testing.TB, add, take []api.Triple) string {
	t.Helper()
	b, err := code.Layer(api.Layer{Add: add, Take: take})
	wantTold(t, "Layer", err, api.OK)
	return b
}

// These are what the texts of this file are written like.
func TestWritten(t *testing.T) {
	r := forked(t)
	aaa, bbb, ccc, zzz := change(t, list("aaa"), nil), change(t, list("bbb"), nil), change(t, list("ccc"), nil), change(t, list("zzz"), nil)
	root := written(nil, []string{aaa}, []string{one(1, "root")})
	left := written(nil, []string{aaa, bbb}, []string{one(1, "root"), one(2, "left", 0)})
	right := written(nil, []string{aaa, ccc}, []string{one(1, "root"), one(2, "right", 0)})
	joined := written(nil, []string{aaa, bbb, ccc}, []string{one(1, "root"), one(2, "left", 0), one(3, "right", 0), one(3, "joined", 1, 2)})
	other := written(nil, []string{zzz}, []string{one(1, "other")})
	if got, want := bundle.Names(r), []string{root, left, right, joined, other}; !slices.Equal(got, want) {
		t.Errorf("names are %q, want %q", got, want)
	}
	for _, c := range []struct {
		have []int
		want string
	}{
		{nil, written(nil, []string{aaa, bbb, ccc, zzz}, []string{one(1, "root"), one(2, "left", 0), one(3, "right", 0), one(3, "joined", 1, 2), one(4, "other")})},
		{[]int{1, 4}, written([]string{root, left}, []string{ccc}, []string{one(1, "right", -1), one(1, "joined", -2, 0)})},
		{[]int{2, 1}, written([]string{left, right}, []string{ccc, zzz}, []string{one(1, "joined", -1, -2), one(2, "other")})},
		{[]int{3}, written(nil, []string{zzz}, []string{one(1, "other")})},
		{[]int{3, 4}, written(nil, nil, nil)},
	} {
		if got := exported(t, r, c.have...); got != c.want {
			t.Errorf("Export but %v: %q, want %q", c.have, got, c.want)
		}
	}
}

// The text of nothing is one; no text is none.
func TestTextOfNothing(t *testing.T) {
	empty := exported(t, repo.New())
	for _, r := range []*repo.Repo{repo.New(), forked(t)} {
		before := shown(r)
		wantImport(t, r, empty)
		if shown(r) != before {
			t.Error("nothing came, and something has changed")
		}
	}
	wantNeeds(t, empty)
	wantNone(t, "")
}

func TestTextsThatAreNone(t *testing.T) {
	for _, text := range []string{
		"", " ", "\n", "x", "0", "0 ", "0 0 0 ", "strataweb", "strataweb bundle", "strataweb bundle\n", "bundle\n0 0 0 ",
		"strataweb bundle\n0 0 0", "strataweb bundle\n0 0 0  ", "strataweb bundle\n0 0 0 0 ", "strataweb bundle\n0 0 0 \n",
		"strataweb bundle\n00 0 0 ", "strataweb bundle\n+0 0 0 ", "strataweb bundle\n-0 0 0 ", "strataweb bundle\n0  0 0 ", "strataweb bundle\n 0 0 0 ",
		"strataweb bundle\n0\n0\n0\n", "strataweb bundle\n-1 0 0 ", "strataweb bundle\n0 -1 0 ", "strataweb bundle\n0 0 -1 ", "strataweb bundle\n0x0 0 0 ", "strataweb bundle\n0_0 0 0 ",
		"Strataweb bundle\n0 0 0 ", "strataweb bundle\r\n0 0 0 ", "\ufeffstrataweb bundle\n0 0 0 ",
		strings.Repeat("0 ", 100_000), "strataweb bundle\n" + strings.Repeat("0 ", 100_000), "strataweb bundle\n" + strings.Repeat("0", 100_000) + " 0 0 ",
		"strataweb bundle\n" + strings.Repeat("9", 100_000) + " ", "strataweb bundle\n" + strings.Repeat("x", 100_000),
		strings.Repeat("\x00", 1000), strings.Repeat("strataweb bundle\n", 1000),
	} {
		wantNone(t, text)
	}
}

// There may be said to be far more than there is.
func TestTextsThatSayMany(t *testing.T) {
	right := one(1, "m")
	aaa := change(t, list("aaa"), nil)
	for _, n := range []string{"2", "3", "61", "1000000000", "4294967296", "9223372036854775807", "9223372036854775808", "99999999999999999999999", "-1", "-9223372036854775808"} {
		wantNone(t, "strataweb bundle\n"+n+" ")
		wantNone(t, "strataweb bundle\n"+n+" 0 0 ")
		wantNone(t, "strataweb bundle\n1 "+n+" 0 0 ")
		wantNone(t, "strataweb bundle\n0 "+n+" "+counted(aaa)+"1 "+right)
		wantNone(t, "strataweb bundle\n0 1 "+n+" "+aaa+"1 "+right)
		wantNone(t, "strataweb bundle\n0 1 "+counted(aaa)+n+" "+right)
		wantNone(t, "strataweb bundle\n0 1 "+counted(aaa)+"1 "+n+" "+right[2:])
		wantNone(t, "strataweb bundle\n0 1 "+counted(aaa)+"1 0 1 "+n+" m")
		wantNone(t, "strataweb bundle\n0 1 "+counted(aaa)+"1 0 "+n+" 1 m")
		wantNone(t, "strataweb bundle\n0 1 "+counted(aaa)+"1 1 "+n+" 1 1 m")
	}
	wantNone(t, "strataweb bundle\n0 1 "+counted(aaa)+"1 0 0 1 m")
	wantNeeds(t, "strataweb bundle\n0 1 "+counted(aaa)+"1 0 1 1 m")
}

// Texts that are written right, and say what no Repo has.
func TestTextsOfNoRepo(t *testing.T) {
	aaa, bbb, back := change(t, list("aaa"), nil), change(t, list("bbb"), nil), change(t, nil, list("aaa"))
	objects := []string{aaa, bbb}
	root := written(nil, objects[:1], []string{one(1, "m")})
	second := written(nil, objects, []string{one(1, "m"), one(2, "m", 0)})
	wantNeeds(t, root)
	wantNeeds(t, written([]string{root, second}, objects[1:], []string{one(1, "j", -1, -2)}), root, second)
	for _, text := range []string{
		// Objects: twice, of no use, not as they are needed, no Layer, a Layer that does not go on from there.
		written(nil, []string{aaa, aaa}, []string{one(1, "m"), one(2, "n")}),
		written(nil, objects, []string{one(1, "m")}),
		written(nil, objects, nil),
		written(nil, objects, []string{one(2, "m"), one(1, "m", 0)}),
		written(nil, []string{""}, []string{one(1, "m")}),
		written(nil, []string{aaa[1:]}, []string{one(1, "m")}),
		written(nil, []string{aaa + "\x00"}, []string{one(1, "m")}),
		written(nil, []string{aaa[:len(aaa)-2] + aaa[:len(aaa)-2]}, []string{one(1, "m")}),
		written(nil, []string{back}, []string{one(1, "m")}),
		written(nil, []string{aaa}, []string{one(1, "m"), one(1, "n", 0)}),
		written([]string{root}, []string{aaa}, []string{one(1, "n", -1)}),
		written([]string{second}, []string{bbb}, []string{one(1, "n", -1)}),
		// Layers that are no objects.
		written(nil, objects[:1], []string{one(0, "m")}),
		written(nil, objects[:1], []string{one(2, "m")}),
		written(nil, objects[:1], []string{one(-1, "m")}),
		written(nil, nil, []string{one(1, "m")}),
		// Parents: one that comes later, itself, none such, too many, both the same.
		written(nil, objects, []string{one(1, "m", 1), one(2, "m")}),
		written(nil, objects, []string{one(1, "m"), one(2, "m", 1)}),
		written(nil, objects, []string{one(1, "m"), one(2, "m", 7)}),
		written(nil, objects, []string{one(1, "m"), one(2, "m", -1)}),
		written([]string{root}, objects[1:], []string{one(1, "m", -2)}),
		written([]string{root}, objects[1:], []string{one(1, "m", -1, -1)}),
		written([]string{root}, objects[1:], []string{one(1, "m", 0)}),
		written(nil, objects, []string{one(1, "m"), one(2, "m", 0, 0)}),
		written(nil, []string{aaa, change(t, nil, nil), bbb}, []string{one(1, "m"), one(2, "m", 0), one(2, "m", 1), one(3, "m", 0, 1, 2)}),
		// Messages.
		written(nil, objects[:1], []string{one(1, "\n")}),
		written(nil, objects[:1], []string{one(1, "\x7f")}),
		written(nil, objects[:1], []string{one(1, "\u00e9")}),
		written(nil, objects[:1], []string{one(1, strings.Repeat("m", api.MaxText+1))}),
		// A commit that is there twice, or is needed, or came ahead of what is needed.
		written(nil, objects[:1], []string{one(1, "m"), one(1, "m")}),
		written([]string{root}, objects, []string{one(1, "m"), one(2, "m", -1)}),
		written([]string{second}, []string{aaa, change(t, list("ccc"), nil)}, []string{one(1, "m"), one(2, "m", -1)}),
		// Needs: of no use, twice, not rising, no names.
		written([]string{root}, nil, nil),
		written([]string{root}, objects[:1], []string{one(1, "x")}),
		written([]string{root, second}, objects[1:], []string{one(1, "x", -1)}),
		written([]string{root, root}, objects[1:], []string{one(1, "j", -1, -2)}),
		written([]string{second, root}, []string{change(t, nil, nil)}, []string{one(1, "j", -1, -2)}),
		written([]string{""}, objects[1:], []string{one(1, "x", -1)}),
		written([]string{"root"}, objects[1:], []string{one(1, "x", -1)}),
		written([]string{root + "x"}, objects[1:], []string{one(1, "x", -1)}),
		written([]string{root[1:]}, objects[1:], []string{one(1, "x", -1)}),
		written([]string{written(nil, nil, nil)}, objects[1:], []string{one(1, "x", -1)}),
		written([]string{written(nil, objects, []string{one(1, "m"), one(2, "m")})}, []string{aaa}, []string{one(1, "x", -1)}),
		written([]string{written([]string{root}, objects[1:], []string{one(1, "m", -1)})}, []string{change(t, nil, nil)}, []string{one(1, "x", -1)}),
		written([]string{written([]string{root}, objects[:1], []string{one(1, "m")})}, objects[1:], []string{one(1, "x", -1)}),
		written([]string{written(nil, objects[:1], []string{one(2, "m")})}, objects[1:], []string{one(1, "x", -1)}),
	} {
		wantNone(t, text)
	}
}

// More commits, or more bytes, than a Repo may have, among them those that are needed.
func TestTextsOfTooMany(t *testing.T) {
	empty := change(t, nil, nil)
	var commits []string
	for i := range api.MaxCommits + 1 {
		commits = append(commits, one(1, "m"+strconv.Itoa(i)))
	}
	wantNeeds(t, written(nil, []string{empty}, commits[:api.MaxCommits]))
	wantNone(t, written(nil, []string{empty}, commits))
	name := written(nil, []string{empty}, commits[:1])
	commits[1] = one(1, "m", -1)
	wantNeeds(t, written([]string{name}, []string{empty}, commits[1:api.MaxCommits]), name)
	wantNone(t, written([]string{name}, []string{empty}, commits[1:]))
	var objects []string
	for i := range 4 {
		objects = append(objects, change(t, wide(i*api.MaxSet, (i+1)*api.MaxSet), nil))
		commits[i] = one(i+1, "m")
	}
	wantNeeds(t, written(nil, objects[:3], commits[:3]))
	wantNone(t, written(nil, objects, commits[:4]))
}

// wantLikeAll fails unless a text is told alike by Needs and Import, and, if it needs nothing, is just what Export makes of what has come of it.
func wantLikeAll(t testing.TB, text string) {
	t.Helper()
	needs, err := bundle.Needs(text)
	if err != nil {
		wantNone(t, text)
		return
	}
	if !slices.IsSorted(needs) || len(slices.Compact(slices.Clone(needs))) != len(needs) {
		t.Errorf("Needs told %q, which do not rise", needs)
	}
	if len(needs) > 0 {
		wantNoImport(t, repo.New(), text, api.ErrNone)
		return
	}
	r := repo.New()
	if _, err := bundle.Import(r, text); err != nil {
		t.Fatalf("%q: told %v", short(text), err)
	}
	if got := exported(t, r); got != text {
		t.Errorf("%q came, and goes as %q", short(text), short(got))
	}
}

// texts are some that Export writes.
func texts(t testing.TB) []string {
	r := forked(t)
	out := []string{exported(t, repo.New()), exported(t, r), exported(t, r, 0), exported(t, r, 1, 4), exported(t, r, 3)}
	return append(out, exported(t, woven(9, 20)), exported(t, woven(9, 20), 3))
}

// Cut off anywhere, or with more behind it, a text is none.
func TestTextsCutOff(t *testing.T) {
	for _, text := range texts(t) {
		wantLikeAll(t, text)
		for at := range text {
			wantNone(t, text[:at])
			wantNone(t, text[at+1:])
		}
		for _, more := range []string{" ", "0 ", "\n", "x", "\x00", text} {
			wantNone(t, text+more)
			wantNone(t, more+text)
		}
	}
}

// Changed anywhere it is none, or that of another Export.
func TestTextsChanged(t *testing.T) {
	for _, text := range texts(t)[:5] {
		for at := range text {
			for _, b := range []byte{text[at] + 1, text[at] - 1, text[at] ^ 0x20, ' ', '0', '1', '-', 0, 255} {
				wantLikeAll(t, text[:at]+string([]byte{b})+text[at+1:])
				wantLikeAll(t, text[:at]+string([]byte{b})+text[at:])
			}
			wantLikeAll(t, text[:at]+text[at+1:])
		}
	}
}

func FuzzText(f *testing.F) {
	for _, text := range texts(f) {
		f.Add(text)
	}
	f.Fuzz(func(t *testing.T, text string) {
		wantLikeAll(t, text)
		r := forked(t)
		before := shown(r)
		if _, err := bundle.Import(r, text); err != nil && shown(r) != before {
			t.Errorf("told %v, and changed what was there", plain.Told(err))
		}
		wantWhole(t, r)
	})
}

// FuzzCarry carries what one Repo has to another one, by the chapter's words.
func FuzzCarry(f *testing.F) {
	f.Add(int64(1), int64(2), uint8(9), uint8(20), uint8(1), uint8(0))
	f.Add(int64(7), int64(7), uint8(30), uint8(20), uint8(5), uint8(9))
	f.Fuzz(func(t *testing.T, one, two int64, steps, others, first, second uint8) {
		from, to := woven(one, int(steps)%40), woven(two, int(others)%20)
		var have []int
		if size := len(from.Commits()); size > 0 {
			have = []int{int(first) % size, int(second) % size}[:int(first^second)%3]
		}
		wantCarried(t, world{}, from, to, have)
	})
}
