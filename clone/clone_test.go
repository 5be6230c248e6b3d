package clone_test

import (
	"reflect"
	"testing"

	"almonry/api"
	"almonry/clone"
)

func TestClonesAreApart(t *testing.T) {
	k := api.Keys{Members: api.Members{Users: 2, Groups: [][]int{{0}, {0, 1}}}, Publics: []string{"a", "b"}}
	kept := clone.Keys(k)
	k.Members.Groups[1][0], k.Publics[0] = 9, "z"
	if kept.Members.Groups[1][0] != 0 || kept.Publics[0] != "a" || kept.Members.Users != 2 {
		t.Errorf("%v", kept)
	}
	s := api.State{Tables: [][]api.Node{nil, {{Num: 1, Ents: []api.Dirent{{Name: "a"}}}}}}
	held := clone.State(s)
	if !reflect.DeepEqual(s, held) {
		t.Errorf("%v", held)
	}
	s.Tables[1][0].Ents[0].Name, s.Tables[0] = "z", []api.Node{{}}
	if held.Tables[1][0].Ents[0].Name != "a" || held.Tables[0] != nil {
		t.Errorf("%v", held)
	}
	es := []api.Entry{{Vec: []int{1}, Tables: []api.Hash{{1}}}}
	copies := clone.Entries(es)
	es[0].Vec[0], es[0].Tables[0] = 9, api.Hash{9}
	if copies[0].Vec[0] != 1 || copies[0].Tables[0] != (api.Hash{1}) {
		t.Errorf("%v", copies)
	}
	as := []api.Answer{{Names: []string{"a"}}}
	told := clone.Answers(as)
	as[0].Names[0] = "z"
	if told[0].Names[0] != "a" || clone.Answers(nil) != nil {
		t.Errorf("%v", told)
	}
}
