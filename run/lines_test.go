package run_test

import (
	"strings"
	"testing"

	"strataweb/api"
)

func TestNothing(t *testing.T) {
	wantRun(t, "", "")
}

// A text of just so many bytes is gone over, one of a byte more is not, whatever stands in it.
func TestTooLong(t *testing.T) {
	line := "add a p " + strings.Repeat("a", api.MaxText) + "\n"
	texts := map[string]string{ // what is answered to it, once it is cut at MaxRun
		strings.Repeat("\n", api.MaxRun+1):                      strings.Repeat("bad\n", api.MaxRun),
		strings.Repeat("a", api.MaxRun+1):                       "bad\n",
		strings.Repeat("a", api.MaxRun-1) + "\n\n":              "bad\n",
		strings.Repeat("a", api.MaxRun-2) + "\n\n\n":            "bad\nbad\n",
		"load " + strings.Repeat("a", api.MaxRun-4):             "ErrSyntax\n",
		strings.Repeat("size\n", api.MaxRun/5) + "\n":           strings.Repeat("0\n", api.MaxRun/5),
		strings.Repeat("size\n", api.MaxRun/5) + "s":            strings.Repeat("0\n", api.MaxRun/5),
		strings.Repeat("\u20ac", api.MaxRun/3) + "a":            "bad\n",
		strings.Repeat("\xff", api.MaxRun+1):                    "bad\n",
		strings.Repeat("\x00", api.MaxRun) + "\n":               "bad\n",
		line + strings.Repeat(" ", api.MaxRun-len(line)) + "\n": "new\nbad\n",
	}
	for text, want := range texts {
		if len(text) != api.MaxRun+1 {
			t.Fatalf("%.50q has %d bytes", text, len(text))
		}
		wantRun(t, text, "too long\n")
		wantRun(t, text[:api.MaxRun], want)
	}
	for _, size := range []int{api.MaxRun + 1, api.MaxRun + 2, 2 * api.MaxRun, 1 << 16, 1 << 24} {
		wantRun(t, strings.Repeat("size\n", size/5+1)[:size], "too long\n")
	}
}

// Fewer than MaxRun characters may be more than MaxRun bytes.
func TestTooLongByBytes(t *testing.T) {
	wantRun(t, strings.Repeat("\u20ac", api.MaxRun/3+1), "too long\n")
	wantRun(t, strings.Repeat("\u00e9\n", api.MaxRun/3+1), "too long\n")
	wantRun(t, strings.Repeat("\u00e9\n", api.MaxRun/3), strings.Repeat("bad\n", api.MaxRun/3))
}

// A text is cut at byte 10 alone; a last piece is a line too, if it is not empty.
func TestCut(t *testing.T) {
	for text, want := range map[string]string{
		"size":               "0\n",
		"size\n":             "0\n",
		"size\nsize":         "0\n0\n",
		"size\nsize\n":       "0\n0\n",
		"size\n\nsize":       "0\nbad\n0\n",
		"\n":                 "bad\n",
		"\n\n":               "bad\nbad\n",
		"\nsize":             "bad\n0\n",
		"size\n\n":           "0\nbad\n",
		" ":                  "bad\n",
		" \n":                "bad\n",
		"size\n ":            "0\nbad\n",
		"size\r\n":           "bad\n",
		"size\rsize":         "bad\n",
		"size\n\r":           "0\nbad\n",
		"size\x00":           "bad\n",
		"size\u2028size":     "bad\n",
		"size\u0085size":     "bad\n",
		"size\v":             "bad\n",
		"size\\nsize":        "bad\n",
		"add a p \"x\ny\"":   "ErrSyntax\nbad\n",
		"add a p a\nsize":    "new\n1\n",
		"add a p a\r\nsize":  "ErrSyntax\n0\n",
		"load m\nload m\r\n": "ErrNone\nErrSyntax\n",
	} {
		wantRun(t, text, want)
	}
}

// What has not its blank, or one too many, and whatever else stands in no row. What may be behind a blank is told by each row itself.
func TestBad(t *testing.T) {
	all := []string{"", " ", "  ", "a", "bad", "ok", "fly", "fly m", "new", "-", "0", "\xff", "\u00e9", "size\t", "\tsize", " size", "size ", "size  ", "size a", "size size", "twin ", "twin m", " twin", "twins", "twin\x00", "size=0"}
	for _, word := range []string{"add", "take", "ask", "commit", "load", "push", "pull", "give"} {
		all = append(all, word, " "+word, word+"\t", word+"\r", word+"m", word+"\tm", word+"\u00a0m", word+"=m", word+"s m", " "+word+" m", strings.ToUpper(word)+" m", strings.ToUpper(word[:1])+word[1:]+" m", word[:len(word)-1]+" m", "\""+word+"\" m", "\x00"+word+" m")
	}
	for _, word := range []string{"size", "twin"} {
		all = append(all, strings.ToUpper(word), word[:3], word+word, word+"\r", word+".")
	}
	for _, line := range all {
		wantSession(t, step{"add a p a", "new"}, step{line, "bad"}, step{"size", "1"}, step{"twin", "-"})
	}
}

// All that stands behind the first blank is the rest, blanks too; it may be empty.
func TestRest(t *testing.T) {
	rows := map[string][]fault{
		"add": tripleFaults(), "take": tripleFaults(), "ask": queryFaults(),
		"commit": nameFaults(), "load": nameFaults(), "push": nameFaults(), "pull": nameFaults(), "give": nameFaults(),
	}
	for word, faults := range rows {
		for _, f := range faults {
			wantSession(t,
				step{"add a p a", "new"}, step{"commit m", "0"}, step{"give m", "0"}, step{"add b p b", "new"},
				step{word + " " + f.text, f.told},
				step{"size", "2"}, step{"twin", "m=1"}, step{"give m", "1"}, step{"load m", "1"}, step{"commit m", "1"})
		}
	}
}

// One text knows nothing of another one.
func TestApart(t *testing.T) {
	text := lines("add a p a", "commit m", "push m", "twin", "size")
	for range 3 {
		wantRun(t, text, lines("new", "0", "0", "m=1", "1"))
		wantRun(t, "size\ntwin\nload m\n", "0\n-\nErrNone\n")
	}
}
