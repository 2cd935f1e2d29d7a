package store_test

import (
	"slices"
	"testing"

	"strataweb/api"
	"strataweb/store"
)

func TestKeepOfNothing(t *testing.T) {
	s := store.New()
	wantKeep(t, s, nil, 0)
	wantKeep(t, s, []int{}, 0)
	for _, id := range append(strange(), 1, 2) {
		wantNoKeep(t, s, []int{id})
	}
	wantHeld(t, s, nil)
	wantPut(t, s, "a", 1)
}

// Every choice of five, each in rising and in falling order, and each of them twice.
func TestKeep(t *testing.T) {
	all := numbered("a", "", "c", "b", "dd")
	for bits := range 1 << len(all) {
		var rest held
		for i, o := range all {
			if bits>>i&1 == 1 {
				rest = append(rest, o)
			}
		}
		rising := rest.ids()
		falling := slices.Clone(rising)
		slices.Reverse(falling)
		for _, ids := range [][]int{rising, falling, slices.Concat(rising, rising), slices.Concat(falling, rising)} {
			s := filled(t, "a", "", "c", "b", "dd")
			wantKeep(t, s, ids, len(all)-len(rest))
			wantHeld(t, s, rest)
			wantKeep(t, s, ids, 0)
			wantHeld(t, s, rest)
			wantPut(t, s, "new", 6)
		}
	}
}

// What is gone is none any more; come again, it has a new number, also where that of the last one is free.
func TestKeepAndPutAgain(t *testing.T) {
	s := filled(t, "a", "b", "c")
	wantKeep(t, s, []int{1}, 2)
	for _, b := range []string{"b", "c"} {
		wantNoFind(t, s, b)
	}
	for _, id := range []int{2, 3} {
		wantNoGet(t, s, id)
		wantNoKeep(t, s, []int{id})
		wantNoKeep(t, s, []int{1, id})
	}
	wantPut(t, s, "a", 1)
	wantPut(t, s, "c", 4)
	wantPut(t, s, "c", 4)
	wantPut(t, s, "b", 5)
	wantHeld(t, s, held{{1, "a"}, {4, "c"}, {5, "b"}})
	wantKeep(t, s, []int{5, 4}, 1)
	wantPut(t, s, "a", 6)
	wantHeld(t, s, held{{4, "c"}, {5, "b"}, {6, "a"}})
}

// All gone, numbers go on where they were.
func TestKeepNone(t *testing.T) {
	s := store.New()
	for n := 1; n < 50; n += 2 {
		wantPut(t, s, "a", n)
		wantPut(t, s, "", n+1)
		wantKeep(t, s, nil, 2)
		wantHeld(t, s, nil)
		wantNoFind(t, s, "a")
		wantNoFind(t, s, "")
	}
}

// One that is none, at any place: all stay, also those that are not named.
func TestKeepWrong(t *testing.T) {
	s := filled(t, "a", "b", "c", "d")
	wantKeep(t, s, []int{1, 2, 4}, 1)
	want := held{{1, "a"}, {2, "b"}, {4, "d"}}
	for _, id := range append(strange(), 3, 5, 6, -4) {
		for _, ids := range [][]int{{id}, {id, 1}, {1, id}, {1, id, 2}, {id, id}, {1, 2, 4, id}, {id, 1, 2, 4}, {4, 4, id, 4}} {
			wantNoKeep(t, s, ids)
			wantHeld(t, s, want)
		}
	}
	wantPut(t, s, "c", 5)
}

// Objects that are gone leave their room to others.
func TestKeepLeavesRoomForObjects(t *testing.T) {
	all := span(0, api.MaxObjects)
	s := filled(t, all...)
	wantNoPut(t, s, "a")
	wantKeep(t, s, s.Ids(), 0)
	wantNoPut(t, s, "a")
	wantKeep(t, s, s.Ids()[2:], 2)
	wantPut(t, s, "a", api.MaxObjects+1)
	wantPut(t, s, all[0], api.MaxObjects+2)
	wantNoPut(t, s, all[1])
	want := append(numbered(all...)[2:], object{api.MaxObjects + 1, "a"}, object{api.MaxObjects + 2, all[0]})
	wantHeld(t, s, want)
	wantKeep(t, s, []int{api.MaxObjects}, api.MaxObjects-1)
	for i := range api.MaxObjects - 1 {
		wantPut(t, s, "b"+all[i], api.MaxObjects+3+i)
	}
	wantNoPut(t, s, "a")
}

// Bytes that are gone leave their room to others, just so much.
func TestKeepLeavesRoomForBytes(t *testing.T) {
	s := filled(t, long('a', 1_000), long('b', api.MaxBytes-1_000))
	wantNoPut(t, s, "c")
	wantKeep(t, s, []int{2}, 1)
	wantNoPut(t, s, long('c', 1_001))
	wantPut(t, s, long('c', 1_000), 3)
	wantNoPut(t, s, "d")
	wantNoKeep(t, s, []int{1})
	wantNoPut(t, s, "d")
	wantKeep(t, s, nil, 2)
	wantNoPut(t, s, long('d', api.MaxBytes+1))
	wantPut(t, s, long('d', api.MaxBytes), 4)
	wantHeld(t, s, held{{4, long('d', api.MaxBytes)}})
}

// A list that is handed in is neither written nor kept, nor is what lies behind its length read.
func TestKeepLeavesTheList(t *testing.T) {
	s := filled(t, "a", "b", "c", "d")
	room := []int{4, 2, 4, 99, 1, 1}
	wantKeep(t, s, room[:3], 2)
	if !slices.Equal(room, []int{4, 2, 4, 99, 1, 1}) {
		t.Errorf("Keep wrote into what it was given: %v", room)
	}
	for i := range room {
		room[i] = 77
	}
	wantHeld(t, s, held{{2, "b"}, {4, "d"}})
	wantNoKeep(t, s, room[:3])
	if !slices.Equal(room, []int{77, 77, 77, 77, 77, 77}) {
		t.Errorf("Keep wrote into what it was given: %v", room)
	}
	wantHeld(t, s, held{{2, "b"}, {4, "d"}})
}

// A list may be far longer than the objects are many.
func TestKeepLongList(t *testing.T) {
	all := span(0, api.MaxObjects)
	s := filled(t, all...)
	ids := make([]int, 1_000_000)
	for i := range ids {
		ids[i] = 1 + i%(api.MaxObjects-1)
	}
	wantKeep(t, s, ids, 1)
	wantHeld(t, s, numbered(all[:api.MaxObjects-1]...))
	wantNoKeep(t, s, append(ids, api.MaxObjects))
	wantHeld(t, s, numbered(all[:api.MaxObjects-1]...))
}

// FuzzCalls holds a Store against a list, with objects of few and of many bytes.
func FuzzCalls(f *testing.F) {
	f.Add(byte(0), []byte{0, 1, 0, 2, 0, 3, 0, 1, 3, 5, 0, 2})
	f.Add(byte(2), []byte{0, 1, 0, 2, 0, 3, 3, 255, 0, 9, 2, 9})
	f.Add(byte(255), []byte{1, 200, 1, 250, 1, 251, 1, 90, 3, 1, 1, 90, 2, 0, 3, 0, 0, 0})
	f.Fuzz(func(t *testing.T, left byte, calls []byte) {
		start := span(0, api.MaxObjects-int(left))
		s, h, last := filled(t, start...), numbered(start...), len(start)
		for ; len(calls) >= 2; calls = calls[2:] {
			kind, x := calls[0]%4, calls[1]
			switch kind {
			case 0:
				h, last = putNext(t, s, h, last, "p"+string([]byte{x % 16}))
			case 1:
				h, last = putNext(t, s, h, last, long(x, 1+int(x)*100))
			case 2:
				h = keepNext(t, s, h, []int{last - int(x), last, int(x)})
			case 3:
				h = keepSome(t, s, h, x)
			}
		}
		wantHeld(t, s, h)
	})
}

// putNext puts an object, and tells what is held then, and the last number.
func putNext(t *testing.T, s *store.Store, h held, last int, b string) (held, int) {
	t.Helper()
	id := h.byBytes(b)
	switch {
	case id != 0:
		wantPut(t, s, b, id)
	case len(h) == api.MaxObjects || h.size()+len(b) > api.MaxBytes:
		wantNoPut(t, s, b)
	default:
		last++
		wantPut(t, s, b, last)
		h = append(slices.Clone(h), object{last, b})
	}
	return h, last
}

// keepNext keeps what has these numbers, and tells what is held then.
func keepNext(t *testing.T, s *store.Store, h held, ids []int) held {
	t.Helper()
	for _, id := range ids {
		if !slices.Contains(h.ids(), id) {
			wantNoKeep(t, s, ids)
			return h
		}
	}
	var rest held
	for _, o := range h {
		if slices.Contains(ids, o.id) {
			rest = append(rest, o)
		}
	}
	wantKeep(t, s, ids, len(h)-len(rest))
	return rest
}

// keepSome keeps what stands at places whose bits are set, over and over.
func keepSome(t *testing.T, s *store.Store, h held, bits byte) held {
	t.Helper()
	var ids []int
	for i, o := range h {
		if bits>>(i%8)&1 == 1 {
			ids = append(ids, o.id)
		}
	}
	return keepNext(t, s, h, ids)
}
