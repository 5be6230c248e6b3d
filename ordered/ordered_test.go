package ordered_test

import (
	"slices"
	"testing"

	"almonry/ordered"
)

type pair struct {
	key   string
	value int
}

func key(p pair) string { return p.key }

func TestRising(t *testing.T) {
	if !ordered.Rising(nil, key) || !ordered.Rising([]pair{{"b", 1}}, key) || !ordered.Rising([]pair{{"a", 2}, {"b", 1}, {"c", 0}}, key) {
		t.Error("what rises")
	}
	if ordered.Rising([]pair{{"a", 1}, {"a", 2}}, key) || ordered.Rising([]pair{{"a", 1}, {"c", 2}, {"b", 2}}, key) {
		t.Error("what does not rise")
	}
}

func TestTable(t *testing.T) {
	var table []pair
	for _, p := range []pair{{"c", 1}, {"a", 2}, {"b", 3}, {"a", 4}} {
		before := slices.Clone(table)
		next := ordered.With(table, key, p)
		if !slices.Equal(table, before) {
			t.Error("the old table is another one then")
		}
		table = next
	}
	if !slices.Equal(table, []pair{{"a", 4}, {"b", 3}, {"c", 1}}) {
		t.Errorf("%v", table)
	}
	if at, ok := ordered.Place(table, key, "bb"); at != 2 || ok {
		t.Errorf("place %d", at)
	}
	if at, ok := ordered.Place(table, key, "b"); at != 1 || !ok {
		t.Errorf("place %d", at)
	}
	less, ok := ordered.Without(table, key, "b")
	if !ok || !slices.Equal(less, []pair{{"a", 4}, {"c", 1}}) || len(table) != 3 {
		t.Errorf("%v", less)
	}
	if less, ok := ordered.Without(table, key, "d"); ok || less != nil {
		t.Errorf("%v", less)
	}
}
