package shelf_test

import (
	"slices"
	"strings"
	"testing"

	"almonry/api"
	"almonry/shelf"
	"almonry/tag"
)

func TestShelf(t *testing.T) {
	s := shelf.Of([]string{"b", "a", "b", strings.Repeat("x", api.MaxText+1)})
	h, _ := tag.Sum(api.TagObject, "a")
	if own, ok := shelf.Hash("a"); own != h || !ok {
		t.Error("Hash")
	}
	if data, ok := s.Get(h); data != "a" || !ok {
		t.Errorf("Get: %q", data)
	}
	if _, ok := s.Get(api.Hash{}); ok {
		t.Error("Get of no object")
	}
	if _, ok := shelf.Hash(strings.Repeat("x", api.MaxText+1)); ok {
		t.Error("a hash of what is too long")
	}
	s.Put("c")
	if !slices.Equal(s.All(), []string{"b", "a", "c"}) {
		t.Errorf("All: %q", s.All())
	}
}
