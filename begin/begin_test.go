package begin_test

import (
	"slices"
	"testing"

	"almonry/api"
	"almonry/begin"
	"almonry/state"
)

func TestOf(t *testing.T) {
	m := api.Members{Users: 2, Groups: [][]int{{0}}}
	tables, objects, e := begin.Of(m)
	if e != api.OK || len(tables) != 3 || tables[1] != tables[2] {
		t.Fatalf("error %d, %d tables", e, len(tables))
	}
	want, _ := state.Empty(m)
	again, some, _ := state.Build(want)
	if !slices.Equal(again, tables) || !slices.Equal(some, objects) {
		t.Error("the begin is another one")
	}
	if tables, objects, e := begin.Of(api.Members{}); e != api.ErrStateForm || tables != nil || objects != nil {
		t.Errorf("members that may not be: error %d", e)
	}
}
