package object_test

import (
	"crypto/sha256"
	"encoding/binary"
	"math"
	"strconv"
	"strings"
	"testing"

	"almonry/api"
	"almonry/object"
)

// hashOf is the chapter's hash, written out.
func hashOf(data string) api.Hash {
	return sha256.Sum256([]byte("\x00" + string(binary.BigEndian.AppendUint32(nil, uint32(len(data)))) + data))
}

// newStore gives a store that must be.
func newStore(t *testing.T, most int) *object.Store {
	s, e := object.New(most)
	if e != api.OK || s == nil || s.Len() != 0 {
		t.Fatalf("New of %d: error %d", most, e)
	}
	return s
}

// P11.1: how many objects there may be room for.
func TestNew(t *testing.T) {
	for _, most := range []int{1, 2, api.MaxObjects} {
		newStore(t, most)
	}
	for _, most := range []int{0, -1, api.MaxObjects + 1, math.MinInt, math.MaxInt} {
		if s, e := object.New(most); s != nil || e != api.ErrObjectForm {
			t.Errorf("New of %d: error %d", most, e)
		}
	}
}

// P11.1: what is put is got by its hash, and nothing else is.
func TestPutAndGet(t *testing.T) {
	s := newStore(t, 10)
	texts := []string{"", "a", "\x00", strings.Repeat("x", api.MaxObject)}
	for i, text := range texts {
		if h, e := s.Get(hashOf(text)); h != "" || e != api.ErrObjectNone {
			t.Errorf("text %d ahead of its Put: error %d", i, e)
		}
		if h, e := s.Put(text); h != hashOf(text) || e != api.OK || s.Len() != i+1 {
			t.Errorf("Put of %d bytes: error %d, %d held", len(text), e, s.Len())
		}
	}
	for _, text := range texts {
		if got, e := s.Get(hashOf(text)); got != text || e != api.OK {
			t.Errorf("Get of %d bytes: %d, error %d", len(text), len(got), e)
		}
		if h, e := s.Put(text); h != hashOf(text) || e != api.OK || s.Len() != len(texts) {
			t.Errorf("Put again: error %d, %d held", e, s.Len())
		}
	}
	for _, h := range []api.Hash{{}, {1}, hashOf("b")} {
		if got, e := s.Get(h); got != "" || e != api.ErrObjectNone {
			t.Errorf("Get of what is not held: error %d", e)
		}
	}
}

// P11.1: Add holds what its hash is told of.
func TestAdd(t *testing.T) {
	s := newStore(t, 10)
	if e := s.Add(hashOf("a"), "a"); e != api.OK || s.Len() != 1 {
		t.Errorf("Add: error %d", e)
	}
	if e := s.Add(hashOf("a"), "a"); e != api.OK || s.Len() != 1 {
		t.Errorf("Add again: error %d", e)
	}
	if got, e := s.Get(hashOf("a")); got != "a" || e != api.OK {
		t.Errorf("Get: %q, error %d", got, e)
	}
	other := hashOf("b")
	other[31] ^= 1
	for _, h := range []api.Hash{{}, hashOf("a"), other, sha256.Sum256([]byte("b"))} {
		if e := s.Add(h, "b"); e != api.ErrObjectForm || s.Len() != 1 {
			t.Errorf("Add of another hash: error %d, %d held", e, s.Len())
		}
	}
}

// P11.1: objects that are too long.
func TestLongObjects(t *testing.T) {
	s := newStore(t, 10)
	for _, n := range []int{api.MaxObject + 1, api.MaxText, api.MaxText + 1} {
		long := strings.Repeat("a", n)
		if h, e := s.Put(long); h != (api.Hash{}) || e != api.ErrObjectForm {
			t.Errorf("Put of %d bytes: error %d", n, e)
		}
		if e := s.Add(hashOf(long), long); e != api.ErrObjectForm || s.Len() != 0 {
			t.Errorf("Add of %d bytes: error %d", n, e)
		}
	}
	long := strings.Repeat("a", api.MaxObject)
	if e := s.Add(hashOf(long), long); e != api.OK {
		t.Errorf("Add of %d bytes: error %d", api.MaxObject, e)
	}
}

// P11.1: a store that is full refuses what it does not hold, and nothing else.
func TestFullStore(t *testing.T) {
	s := newStore(t, 2)
	s.Put("a")
	s.Put("b")
	if h, e := s.Put("c"); h != (api.Hash{}) || e != api.ErrObjectFull {
		t.Errorf("Put: error %d", e)
	}
	if e := s.Add(hashOf("c"), "c"); e != api.ErrObjectFull {
		t.Errorf("Add: error %d", e)
	}
	if e := s.Add(hashOf("d"), "c"); e != api.ErrObjectForm {
		t.Errorf("Add, both errors: error %d", e)
	}
	if _, e := s.Put(strings.Repeat("a", api.MaxObject+1)); e != api.ErrObjectForm {
		t.Errorf("Put, both errors: error %d", e)
	}
	if h, e := s.Put("a"); h != hashOf("a") || e != api.OK {
		t.Errorf("Put of what is held: error %d", e)
	}
	if e := s.Add(hashOf("b"), "b"); e != api.OK {
		t.Errorf("Add of what is held: error %d", e)
	}
	if _, e := s.Get(hashOf("c")); e != api.ErrObjectNone || s.Len() != 2 {
		t.Errorf("%d held, error %d", s.Len(), e)
	}
	big := newStore(t, api.MaxObjects)
	for i := range api.MaxObjects {
		if _, e := big.Put(strconv.Itoa(i)); e != api.OK {
			t.Fatalf("object %d: error %d", i, e)
		}
	}
	if _, e := big.Put("one more"); e != api.ErrObjectFull || big.Len() != api.MaxObjects {
		t.Errorf("the greatest store: error %d", e)
	}
}

// R5: two stores keep apart what they hold.
func TestStoresAreApart(t *testing.T) {
	a, b := newStore(t, 3), newStore(t, 3)
	a.Put("a")
	if _, e := b.Get(hashOf("a")); e != api.ErrObjectNone || b.Len() != 0 {
		t.Errorf("error %d, %d held", e, b.Len())
	}
}

// R3: methods of a nil store.
func TestNilStore(t *testing.T) {
	var s *object.Store
	if h, e := s.Put("a"); h != (api.Hash{}) || e != api.ErrNil {
		t.Errorf("Put: error %d", e)
	}
	if got, e := s.Get(hashOf("a")); got != "" || e != api.ErrNil {
		t.Errorf("Get: error %d", e)
	}
	if s.Add(hashOf("a"), "a") != api.ErrNil || s.Len() != 0 {
		t.Error("a nil store")
	}
}
