package code_test

import (
	"strings"
	"testing"

	"strataweb/api"
	"strataweb/code"
)

// raw makes bytes of numbers.
func raw(numbers ...int) string {
	var out []byte
	for _, n := range numbers {
		out = append(out, byte(n))
	}
	return string(out)
}

func TestReadNothing(t *testing.T) {
	wantTerm(t, "", api.Term{}, api.ErrShort)
	wantSet(t, "", nil, api.ErrShort)
	wantLayer(t, "", api.Layer{}, api.ErrShort)
}

// Right bytes that are cut off anywhere are too short; with more behind them they are none.
func TestReadCutOffAndMore(t *testing.T) {
	for _, x := range rights() {
		for n := range len(x.b) {
			wantTerm(t, x.b[:n], api.Term{}, api.ErrShort)
		}
		for _, more := range []string{"\x00", "a", "\xff", x.b} {
			wantTerm(t, x.b+more, api.Term{}, api.ErrSyntax)
		}
	}
	for _, l := range []api.Layer{{}, of(universe(), nil), of(nil, universe()), of(universe()[:3], universe()[3:])} {
		s, err := code.Set(l.Add)
		wantTold(t, l, err, api.OK)
		b, err := code.Layer(l)
		wantTold(t, l, err, api.OK)
		for n := range len(s) {
			wantSet(t, s[:n], nil, api.ErrShort)
		}
		for n := range len(b) {
			wantLayer(t, b[:n], api.Layer{}, api.ErrShort)
		}
		for _, more := range []string{"\x00", "\x00\x00", "a", "\xff", b} {
			wantSet(t, s+more, nil, api.ErrSyntax)
			wantLayer(t, b+more, api.Layer{}, api.ErrSyntax)
		}
	}
}

// A byte that is of no Kind is told where it stands, whatever is missing behind it; of one that is nothing is told ahead of its other bytes. Just of a Text it may be 4 more.
func TestReadKind(t *testing.T) {
	for kind := range 256 {
		told := api.ErrSyntax
		switch kind {
		case 1, 2, 3, 7:
			told = api.ErrShort
		}
		wantTerm(t, raw(kind), api.Term{}, told)
		wantSet(t, raw(0, 1, kind), nil, told)
		wantSet(t, raw(0, 1)+words("aaa")[:6]+raw(kind), nil, told)
		wantLayer(t, raw(0, 0, 0, 2)+words("aaa")+raw(kind), api.Layer{}, told)
		if told == api.ErrShort {
			continue
		}
		for _, rest := range []string{"e", "en", "en\x02", "en\x02a", "en\x02ab", "\x00", "\x01", "\x01a", "\x03x:y", "\x03x:y\x00\x00"} {
			wantTerm(t, raw(kind)+rest, api.Term{}, api.ErrSyntax)
			for _, ahead := range []string{"", "\x01\x01a", "\x01\x01a\x01\x01p", words("aaa")} {
				wantSet(t, "\x00\x02"+ahead+raw(kind)+rest, nil, api.ErrSyntax)
				wantLayer(t, "\x00\x02"+ahead+raw(kind)+rest, api.Layer{}, api.ErrSyntax)
				wantLayer(t, "\x00\x00\x00\x02"+ahead+raw(kind)+rest, api.Layer{}, api.ErrSyntax)
			}
		}
	}
}

// The last term of a set has a byte of no Kind: read as one with a Lang it would be cut off.
func TestReadKindWithinASet(t *testing.T) {
	b := "\x00\x03" + words("bpb") + "\x01\x01c\x01\x01b\x01\x02k1" + "\x01\x01c\x01\x01p\x05\x03x:y\x00\x00"
	wantSet(t, b, nil, api.ErrSyntax)
	wantLayer(t, b, api.Layer{}, api.ErrSyntax)
}

// A term is asked when it is whole, and not ahead of that.
func TestReadLength(t *testing.T) {
	for n := range 256 {
		s := strings.Repeat("a", n)
		for _, x := range []struct {
			t     api.Term
			ahead string
		}{
			{named(s), "\x01"}, {anon(s), "\x02"}, {text(s, ""), "\x03"}, {text(s, "en"), "\x07en"},
		} {
			b := x.ahead + raw(n) + s
			if n > api.MaxText || n == 0 && x.t.Kind != api.Text {
				wantTerm(t, b, api.Term{}, api.ErrSyntax)
				wantSet(t, "\x00\x01"+b, nil, api.ErrSyntax)
			} else {
				wantTerm(t, b, x.t, api.OK)
				wantSet(t, "\x00\x01"+b, nil, api.ErrShort)
			}
			if n > 0 {
				wantTerm(t, b[:len(b)-1], api.Term{}, api.ErrShort)
				wantTerm(t, x.ahead+raw(n), api.Term{}, api.ErrShort)
			}
		}
	}
}

func TestReadTermFaults(t *testing.T) {
	for _, b := range []string{
		"\x00\x00", "\x04\x00", "\x01\x01A", "\x01\x010", "\x01\x02a_", "\x02\x01.", "\x02\x02a:", "\x02\x01A",
		"\x03\x01\x1f", "\x03\x01\x7f", "\x03\x01\xff", "\x03\x02a\n",
		"\x07EN\x01a", "\x07e1\x00", "\x07\x00\x00\x00", "\x07e \x01a",
	} {
		wantTerm(t, b, api.Term{}, api.ErrSyntax)
	}
	// What is wrong with its bytes is nothing as long as it is not whole.
	for _, b := range []string{"\x01\x02A", "\x02\x02.", "\x03\x02\xff", "\x07E", "\x07EN", "\x07EN\x01", "\x07\x00\x00\x02a"} {
		wantTerm(t, b, api.Term{}, api.ErrShort)
		wantSet(t, "\x00\x01"+b, nil, api.ErrShort)
	}
}

// How many there are is two bytes: the high one alone tells nothing.
func TestReadHowMany(t *testing.T) {
	for n := range 1 << 16 {
		told := api.ErrShort
		switch {
		case n > most:
			told = api.ErrSyntax
		case n == 0:
			told = api.OK
		}
		b := raw(n>>8, n)
		wantSet(t, b, nil, told)
		wantLayer(t, "\x00\x00"+b, api.Layer{}, told)
		if n == 0 {
			told = api.ErrShort
		}
		wantLayer(t, b, api.Layer{}, told)
	}
	for high := range 256 {
		wantSet(t, raw(high), nil, api.ErrShort)
		wantLayer(t, raw(high), api.Layer{}, api.ErrShort)
		wantLayer(t, raw(0, 0, high), api.Layer{}, api.ErrShort)
	}
	// One more than may be, though all are there.
	many := ""
	for _, x := range span(0, most+1) {
		many += "\x01\x01a\x01\x01p\x01\x05" + x.O.S
	}
	wantSet(t, raw(0, most+1)+many, nil, api.ErrSyntax)
	wantLayer(t, raw(0, 0, 0, most+1)+many, api.Layer{}, api.ErrSyntax)
	wantSet(t, raw(0, most)+many, nil, api.ErrSyntax)
	wantSet(t, raw(0, most+1), nil, api.ErrSyntax)
	wantSet(t, raw(0, most), nil, api.ErrShort)
}

// Bytes that are read to their end, and are no set, or no layer.
func TestReadNoSet(t *testing.T) {
	for _, b := range []string{
		"\x00\x02" + words("aaa", "aaa"),
		"\x00\x02" + words("aab", "aaa"),
		"\x00\x03" + words("aaa", "ccc", "bbb"),
		"\x00\x01\x03\x01a" + words("aaa")[3:],
		"\x00\x01" + words("aaa")[:3] + "\x02\x01a" + words("aaa")[6:],
		"\x00\x01" + words("aaa")[:3] + "\x03\x00" + words("aaa")[6:],
	} {
		wantSet(t, b, nil, api.ErrSyntax)
		wantLayer(t, b+"\x00\x00", api.Layer{}, api.ErrSyntax)
		wantLayer(t, "\x00\x00"+b, api.Layer{}, api.ErrSyntax)
		wantLayer(t, b+b, api.Layer{}, api.ErrSyntax)
		// That it is none is told behind all else.
		wantSet(t, b[:len(b)-1], nil, api.ErrShort)
		wantLayer(t, b, api.Layer{}, api.ErrShort)
		wantLayer(t, b+"\x00", api.Layer{}, api.ErrShort)
		wantLayer(t, b+"\x00\x01\x01\x02a", api.Layer{}, api.ErrShort)
		wantLayer(t, b+"\x00\x01\x01\x01A", api.Layer{}, api.ErrSyntax)
		wantLayer(t, b+"\x00\x01\x00", api.Layer{}, api.ErrSyntax)
	}
	same := "\x00\x02" + words("aaa", "bbb") + "\x00\x02" + words("bbb", "ccc")
	wantLayer(t, same, api.Layer{}, api.ErrSyntax)
	wantLayer(t, same[:len(same)-1], api.Layer{}, api.ErrShort)
}

// The first fault from the left is told.
func TestReadTellsTheFirst(t *testing.T) {
	for _, c := range []struct {
		b    string
		want api.Errno
	}{
		{"\x00\x02\x01\x01A", api.ErrSyntax},
		{"\x00\x02" + words("aaa")[:6] + "\x01\x01A", api.ErrSyntax},
		{"\x00\x02" + words("aaa") + "\x01\x00", api.ErrSyntax},
		{"\x00\x02" + words("aaa") + "\x00", api.ErrSyntax},
		{"\x00\x02" + words("aaa") + "\x01\x03aA", api.ErrShort},
		{"\x00\x02" + words("baa", "aaa")[:17], api.ErrShort},
		{"\xff\xff\x01", api.ErrSyntax},
		{"\xff", api.ErrShort},
		// A length that takes in what follows: the term is not whole.
		{"\x00\x01\x01\xff" + words("aaa"), api.ErrShort},
	} {
		wantSet(t, c.b, nil, c.want)
		wantLayer(t, c.b, api.Layer{}, c.want)
		wantLayer(t, "\x00\x00"+c.b, api.Layer{}, c.want)
		wantLayer(t, "\x00\x02"+words("bbb", "aaa")+c.b, api.Layer{}, c.want)
	}
	// Of a term and what follows it the term.
	wantTerm(t, "\x01\x01Aa", api.Term{}, api.ErrSyntax)
	wantTerm(t, "\x00a", api.Term{}, api.ErrSyntax)
}

// All bytes at all places of a layer's, and all bytes away.
func TestReadChanged(t *testing.T) {
	l := of(
		[]api.Triple{said(named("a"), named("p"), text("t", "en")), said(anon("b7"), named("p"), text("", ""))},
		[]api.Triple{said(named("a"), named("p"), anon("1"))},
	)
	whole, err := code.Layer(l)
	wantTold(t, l, err, api.OK)
	half, err := code.Set(l.Add)
	wantTold(t, l, err, api.OK)
	for _, b := range []string{whole, half, whole[2:], whole[5:], "\x07en\x01t", "\x01\x01a", "\x02\x01a"} {
		for i := range len(b) {
			wantRead(t, b[:i]+b[i+1:])
			for n := range 256 {
				wantRead(t, b[:i]+raw(n)+b[i+1:])
				wantRead(t, b[:i]+raw(n))
				wantRead(t, b[:i]+raw(n)+b[i:])
			}
		}
	}
}

func TestReadAllShort(t *testing.T) {
	const bytes = "\x00\x01\x02\x03\x05\x07aA"
	var grow func(b string)
	grow = func(b string) {
		wantRead(t, b)
		if len(b) == 6 {
			return
		}
		for i := range len(bytes) {
			grow(b + bytes[i:i+1])
		}
	}
	grow("")
}

func FuzzRead(f *testing.F) {
	for _, b := range []string{
		"", "\x00\x00", "\x00\x00\x00\x00", "\x01\x01a", "\x07en\x01t", "\x05en\x01t", "\x00\x01" + words("aaa"),
		"\x00\x02" + words("aaa", "bbb") + "\x00\x01" + words("ccc"), "\x00\x01\x02\x02b7\x01\x01p\x07en\x00\x00\x00",
	} {
		f.Add(b)
	}
	f.Fuzz(func(t *testing.T, b string) {
		wantRead(t, b)
		if x, err := code.ReadTerm(b); err == nil {
			got, err := code.Term(x)
			wantBytes(t, x, got, err, b)
		}
		if x, err := code.ReadSet(b); err == nil {
			got, err := code.Set(x)
			wantBytes(t, x, got, err, b)
		}
		if x, err := code.ReadLayer(b); err == nil {
			got, err := code.Layer(x)
			wantBytes(t, x, got, err, b)
		}
	})
}
