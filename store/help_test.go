package store_test

import (
	"math"
	"slices"
	"strconv"
	"strings"
	"testing"

	"strataweb/api"
	"strataweb/plain"
	"strataweb/store"
)

// held is what a Store should have: objects by their numbers, rising.
type held []object

type object struct {
	id int
	b  string
}

// ids are the numbers of what is held.
func (h held) ids() []int {
	var l []int
	for _, o := range h {
		l = append(l, o.id)
	}
	return l
}

// size is how many bytes are held in all.
func (h held) size() int {
	n := 0
	for _, o := range h {
		n += len(o.b)
	}
	return n
}

// byBytes is the number of bytes that are held, 0 if they are not.
func (h held) byBytes(b string) int {
	for _, o := range h {
		if o.b == b {
			return o.id
		}
	}
	return 0
}

// numbered are objects with numbers from 1 on.
func numbered(objects ...string) held {
	var h held
	for i, b := range objects {
		h = append(h, object{i + 1, b})
	}
	return h
}

// span makes objects, each another one, by numbers from one up to another one.
func span(from, to int) []string {
	var l []string
	for n := from; n < to; n++ {
		l = append(l, "o"+strconv.Itoa(n))
	}
	return l
}

// strange are numbers that are those of no object of a short-lived Store.
func strange() []int {
	return []int{0, -1, -2, 1 << 20, 1 << 32, 1<<32 + 1, math.MaxInt, math.MinInt, math.MinInt + 1}
}

// filled makes a Store of these objects, in this order.
func filled(t *testing.T, objects ...string) *store.Store {
	t.Helper()
	s := store.New()
	for i, b := range objects {
		wantPut(t, s, b, i+1)
	}
	return s
}

// short shows bytes, or how many they are if they are many.
func short(b string) string {
	if len(b) > 40 {
		return strconv.Itoa(len(b)) + " bytes"
	}
	return strconv.Quote(b)
}

// wantTold fails unless the error is just the one that is wanted, and nil where nothing is wrong.
func wantTold(t *testing.T, what any, err error, want api.Errno) {
	t.Helper()
	if got := plain.Told(err); got != want || (err == nil) != (want == api.OK) {
		t.Errorf("%v: told %v, want %v", what, err, want)
	}
}

// wantPut fails unless Put answers this number.
func wantPut(t *testing.T, s *store.Store, b string, want int) {
	t.Helper()
	got, err := s.Put(b)
	wantTold(t, "Put("+short(b)+")", err, api.OK)
	if got != want {
		t.Errorf("Put(%s) = %d, want %d", short(b), got, want)
	}
}

// wantNoPut fails unless Put tells that it is full, and no number.
func wantNoPut(t *testing.T, s *store.Store, b string) {
	t.Helper()
	got, err := s.Put(b)
	wantTold(t, "Put("+short(b)+")", err, api.ErrFull)
	if got != 0 {
		t.Errorf("Put(%s) = %d, want 0", short(b), got)
	}
}

// wantKeep fails unless Keep answers that so many were gone.
func wantKeep(t *testing.T, s *store.Store, ids []int, want int) {
	t.Helper()
	got, err := s.Keep(ids)
	wantTold(t, ids, err, api.OK)
	if got != want {
		t.Errorf("Keep(%v) = %d, want %d", ids, got, want)
	}
}

// wantNoKeep fails unless Keep tells that one is none, and that none were gone.
func wantNoKeep(t *testing.T, s *store.Store, ids []int) {
	t.Helper()
	got, err := s.Keep(ids)
	wantTold(t, ids, err, api.ErrNone)
	if got != 0 {
		t.Errorf("Keep(%v) = %d, want 0", ids, got)
	}
}

// wantNoGet fails unless a number is that of no object.
func wantNoGet(t *testing.T, s *store.Store, id int) {
	t.Helper()
	got, err := s.Get(id)
	wantTold(t, id, err, api.ErrNone)
	if got != "" {
		t.Errorf("Get(%d) = %s, want none", id, short(got))
	}
}

// wantNoFind fails unless bytes are no object.
func wantNoFind(t *testing.T, s *store.Store, b string) {
	t.Helper()
	got, err := s.Find(b)
	wantTold(t, "Find("+short(b)+")", err, api.ErrNone)
	if got != 0 {
		t.Errorf("Find(%s) = %d, want 0", short(b), got)
	}
}

// wantHeld fails unless a Store has just these objects, by these numbers.
func wantHeld(t *testing.T, s *store.Store, want held) {
	t.Helper()
	if s.Len() != len(want) {
		t.Errorf("Len() = %d, want %d", s.Len(), len(want))
	}
	if got := s.Ids(); !slices.Equal(got, want.ids()) {
		t.Errorf("Ids() = %v, want %v", got, want.ids())
	}
	top := 0
	for _, o := range want {
		id, err := s.Find(o.b)
		wantTold(t, "Find("+short(o.b)+")", err, api.OK)
		if id != o.id {
			t.Errorf("Find(%s) = %d, want %d", short(o.b), id, o.id)
		}
		b, err := s.Get(o.id)
		wantTold(t, o.id, err, api.OK)
		if b != o.b {
			t.Errorf("Get(%d) = %s, want %s", o.id, short(b), short(o.b))
		}
		top = o.id
	}
	wantNoOthers(t, s, want.ids(), top)
}

// wantNoOthers fails unless all numbers but these, near to them and far away, are none.
func wantNoOthers(t *testing.T, s *store.Store, ids []int, top int) {
	t.Helper()
	for id := -2; id <= top+2; id++ {
		if !slices.Contains(ids, id) {
			wantNoGet(t, s, id)
		}
	}
	for _, id := range strange() {
		wantNoGet(t, s, id)
	}
}

// long makes an object of so many bytes, another one for each first byte.
func long(first byte, size int) string {
	return string([]byte{first}) + strings.Repeat("x", size-1)
}
