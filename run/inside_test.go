package run

import (
	"errors"
	"testing"

	"strataweb/api"
)

// The messages can be told by nothing that a line answers: what is committed has none, what pull joins has m.
func TestMessages(t *testing.T) {
	s := start()
	for _, line := range []string{"commit m", "push m", "add a p a", "commit m", "take a p a", "add b p b", "give m", "pull m"} {
		if answer, err := s.do(line); err != nil {
			t.Fatalf("%s: %s, %v", line, answer, err)
		}
	}
	for what, c := range map[string]struct {
		commits []api.Commit
		want    []string
	}{
		"one": {s.one.Commits(), []string{"", "", "", "m"}},
		"two": {s.two.Commits(), []string{"", ""}},
	} {
		var got []string
		for _, x := range c.commits {
			got = append(got, x.Message)
		}
		if len(got) != len(c.want) {
			t.Fatalf("%s has messages %q, want %q", what, got, c.want)
		}
		for i := range got {
			if got[i] != c.want[i] {
				t.Errorf("%s has messages %q, want %q", what, got, c.want)
			}
		}
	}
}

// wrapped is an error of another type, with a number in it.
type wrapped struct{ error }

func (w wrapped) Unwrap() error { return w.error }

// An error may be a number, or wrap one, however deep: the number's name is told.
func TestTold(t *testing.T) {
	for want, number := range map[string]api.Errno{
		"ErrRange": api.ErrRange, "ErrSyntax": api.ErrSyntax, "ErrShape": api.ErrShape, "ErrFull": api.ErrFull, "ErrNone": api.ErrNone,
		"ErrState": api.ErrState, "ErrClash": api.ErrClash, "ErrShort": api.ErrShort, "ErrSides": api.ErrSides,
	} {
		for _, err := range []error{number, wrapped{number}, wrapped{wrapped{number}}, errors.Join(errBad, number)} {
			if got := told(err); got != want {
				t.Errorf("%v is told as %q, want %q", err, got, want)
			}
		}
	}
	if got := told(errBad); got != "bad" {
		t.Errorf("a line that stands in no row is told as %q", got)
	}
}
