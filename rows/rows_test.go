package rows_test

import (
	"slices"
	"testing"

	"almonry/rows"
)

func TestRow(t *testing.T) {
	var r rows.Row[int, string]
	if _, ok := r.Get(1); ok || len(r.All()) != 0 {
		t.Error("an empty row holds something")
	}
	if !r.Put(2, "two") || !r.Put(1, "one") || r.Put(2, "zwei") {
		t.Error("Put")
	}
	if s, ok := r.Get(2); s != "two" || !ok {
		t.Errorf("Get: %q", s)
	}
	all := r.All()
	if !slices.Equal(all, []string{"two", "one"}) {
		t.Errorf("All: %q", all)
	}
	all[0] = "other"
	if s, _ := r.Get(2); s != "two" {
		t.Error("All is what the row holds")
	}
}

func TestUnlike(t *testing.T) {
	if got := rows.Unlike(slices.Values([]string{"b", "a", "b", "c", "a"})); !slices.Equal(got, []string{"b", "a", "c"}) {
		t.Errorf("%q", got)
	}
	if got := rows.Unlike(slices.Values([]int{})); len(got) != 0 {
		t.Errorf("%d of none", len(got))
	}
}
