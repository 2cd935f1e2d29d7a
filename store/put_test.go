package store_test

import (
	"strings"
	"testing"
	"unsafe"

	"strataweb/api"
	"strataweb/store"
)

func TestEmpty(t *testing.T) {
	s := store.New()
	wantHeld(t, s, nil)
	for _, b := range []string{"", "a", "\x00"} {
		wantNoFind(t, s, b)
	}
	wantHeld(t, s, nil)
}

// Numbers go by when an object came, not by how it stands to others.
func TestPut(t *testing.T) {
	s := store.New()
	wantPut(t, s, "z", 1)
	wantPut(t, s, "a", 2)
	wantPut(t, s, "z", 1)
	wantPut(t, s, "m", 3)
	wantPut(t, s, "a", 2)
	wantPut(t, s, "", 4)
	wantPut(t, s, "", 4)
	wantPut(t, s, "zz", 5)
	wantHeld(t, s, numbered("z", "a", "m", "", "zz"))
}

// Objects are bytes: any, and each that is unlike by one is one of its own.
func TestPutBytes(t *testing.T) {
	objects := []string{"", "\x00", "\x00\x00", "\xff", "\xfe", "\xff\xff", "\xef\xbf\xbd", "a", "A", "a\x00", "\x00a", " a", "a ", "a\n", "é", "e\xcc\x81"}
	for n := range 256 {
		objects = append(objects, "byte"+string([]byte{byte(n)}))
	}
	s := filled(t, objects...)
	wantHeld(t, s, numbered(objects...))
	for i, b := range objects {
		wantPut(t, s, b, i+1)
	}
	wantHeld(t, s, numbered(objects...))
}

// What is asked gets no number by being asked.
func TestAskedIsNotPut(t *testing.T) {
	s := filled(t, "a", "b")
	wantNoFind(t, s, "c")
	wantNoFind(t, s, "")
	wantNoGet(t, s, 3)
	wantHeld(t, s, numbered("a", "b"))
	wantPut(t, s, "d", 3)
	wantNoFind(t, s, "c")
}

// A Store that has all objects that may be still knows them, and takes no other one, not even one without bytes.
func TestPutMostObjects(t *testing.T) {
	all := span(0, api.MaxObjects)
	s := filled(t, all...)
	for range 2 {
		for _, b := range []string{"", "a", "o", "o300", strings.Repeat("a", api.MaxBytes+1)} {
			wantNoPut(t, s, b)
			wantNoFind(t, s, b)
		}
		for i, b := range all {
			wantPut(t, s, b, i+1)
		}
		wantHeld(t, s, numbered(all...))
	}
}

// An object without bytes is one of those that may be.
func TestPutMostObjectsWithEmpty(t *testing.T) {
	all := append([]string{""}, span(0, api.MaxObjects-1)...)
	s := filled(t, all...)
	wantNoPut(t, s, "a")
	wantPut(t, s, "", 1)
	wantHeld(t, s, numbered(all...))
}

func TestPutMostBytes(t *testing.T) {
	for _, sizes := range [][]int{
		{api.MaxBytes},
		{api.MaxBytes - 1, 1},
		{1, api.MaxBytes - 1},
		{20_000, 20_000, 20_000},
		{59_000, 999, 1},
	} {
		var all []string
		for i, size := range sizes {
			all = append(all, long('A'+byte(i), size))
		}
		s := filled(t, all...)
		wantHeld(t, s, numbered(all...))
		for _, b := range []string{"z", "zz", long('z', api.MaxBytes), long('z', api.MaxBytes+1)} {
			wantNoPut(t, s, b)
			wantNoFind(t, s, b)
		}
		for i, b := range all {
			wantPut(t, s, b, i+1)
		}
		// What needs no room has some.
		wantPut(t, s, "", len(all)+1)
		wantNoPut(t, s, "z")
		wantHeld(t, s, numbered(append(all, "")...))
	}
}

// One byte more than there is room for is too much, at any number of bytes that are left; just so many are not.
func TestPutNearMostBytes(t *testing.T) {
	for left := range 6 {
		first := long('a', api.MaxBytes-left)
		s := filled(t, first)
		wantNoPut(t, s, long('z', left+1))
		wantNoPut(t, s, long('z', left+2))
		wantNoPut(t, s, long('z', api.MaxBytes))
		wantHeld(t, s, numbered(first))
		if left == 0 {
			continue
		}
		wantPut(t, s, long('z', left), 2)
		wantNoPut(t, s, "y")
		wantHeld(t, s, numbered(first, long('z', left)))
	}
}

// The first object may be too long by itself.
func TestPutTooLong(t *testing.T) {
	s := store.New()
	wantNoPut(t, s, long('a', api.MaxBytes+1))
	wantNoPut(t, s, long('a', 2*api.MaxBytes))
	wantNoPut(t, s, long('a', 1<<20))
	wantHeld(t, s, nil)
	wantPut(t, s, long('a', api.MaxBytes), 1)
	wantHeld(t, s, numbered(long('a', api.MaxBytes)))
}

// What is there already takes no room again, however often it comes.
func TestPutAgainTakesNoRoom(t *testing.T) {
	half := long('a', api.MaxBytes/2)
	s := filled(t, half)
	for range 5 {
		wantPut(t, s, half, 1)
	}
	wantPut(t, s, long('b', api.MaxBytes/2), 2)
	wantHeld(t, s, numbered(half, long('b', api.MaxBytes/2)))
}

// What had no room has taken no number.
func TestPutAfterFull(t *testing.T) {
	s := filled(t, long('a', api.MaxBytes-1))
	wantNoPut(t, s, "bb")
	wantNoPut(t, s, "cc")
	wantPut(t, s, "b", 2)
	wantNoPut(t, s, "c")
	wantPut(t, s, "", 3)
	wantHeld(t, s, numbered(long('a', api.MaxBytes-1), "b", ""))
}

// What is handed in is not kept: its memory may be written when nobody has the text any more.
func TestPutKeepsNoMemory(t *testing.T) {
	memory := []byte("abc")
	s := filled(t, unsafe.String(&memory[0], len(memory)))
	memory[0] = 'x'
	wantHeld(t, s, numbered("abc"))
	wantNoFind(t, s, "xbc")
	wantPut(t, s, "abc", 1)
}

// What is told is the caller's: no two answers are one memory.
func TestGetTellsFreshMemory(t *testing.T) {
	put := strings.Repeat("a", 100)
	s := filled(t, put)
	one, err := s.Get(1)
	wantTold(t, 1, err, api.OK)
	two, err := s.Get(1)
	wantTold(t, 1, err, api.OK)
	if one != put || two != put {
		t.Errorf("Get(1) = %q, then %q, want %q", one, two, put)
	}
	at := unsafe.StringData(one)
	if at == unsafe.StringData(put) || at == unsafe.StringData(two) {
		t.Error("what Get told shares memory")
	}
}

// Numbers that are told are the caller's: written into, and more behind them, they change nothing, nor one another.
func TestIdsAreTheCallers(t *testing.T) {
	s := filled(t, "a", "b", "c")
	one, two := s.Ids(), s.Ids()
	for i := range one {
		one[i] = 9
	}
	_ = append(one[:0], 7, 7, 7)
	for i, id := range two {
		if id != i+1 {
			t.Errorf("Ids() = %v behind a write into another answer", two)
		}
	}
	wantHeld(t, s, numbered("a", "b", "c"))
	wantPut(t, s, "d", 4)
	if len(two) != 3 {
		t.Errorf("Ids() = %v behind a Put, want what was told", two)
	}
}

// One Store knows nothing of another one.
func TestTwoStores(t *testing.T) {
	one, two := store.New(), store.New()
	wantPut(t, one, "a", 1)
	wantNoFind(t, two, "a")
	wantPut(t, two, "b", 1)
	wantPut(t, two, "a", 2)
	wantKeep(t, two, []int{2}, 1)
	wantHeld(t, one, numbered("a"))
	wantHeld(t, two, held{{2, "a"}})
	wantPut(t, one, "c", 2)
	wantHeld(t, store.New(), nil)
}

// A Clone has the same objects by the same numbers, gives the same number next, and knows nothing of what comes then.
func TestClone(t *testing.T) {
	s := filled(t, "a", "b", "c", "d")
	wantKeep(t, s, []int{1, 3}, 2)
	c := s.Clone()
	wantHeld(t, c, held{{1, "a"}, {3, "c"}})
	wantPut(t, c, "b", 5)
	wantPut(t, c, "e", 6)
	wantHeld(t, s, held{{1, "a"}, {3, "c"}})
	wantPut(t, s, "f", 5)
	wantKeep(t, c, []int{6}, 3)
	wantHeld(t, s, held{{1, "a"}, {3, "c"}, {5, "f"}})
	wantHeld(t, c, held{{6, "e"}})
	wantHeld(t, store.New().Clone(), nil)
	wantPut(t, store.New().Clone(), "a", 1)
}

// It has no more room than the one that it comes of.
func TestCloneOfFull(t *testing.T) {
	s := filled(t, long('a', api.MaxBytes-1))
	c := s.Clone()
	wantNoPut(t, c, "bb")
	wantPut(t, c, "b", 2)
	wantPut(t, s, "c", 2)
	s = filled(t, span(0, api.MaxObjects)...)
	wantNoPut(t, s.Clone(), "more")
}
