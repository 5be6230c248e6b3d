package members_test

import (
	"testing"

	"almonry/api"
	"almonry/members"
)

func TestMembers(t *testing.T) {
	m := api.Members{Users: 3, Groups: [][]int{{0, 2}, {1}}}
	if !members.May(m) || members.Principals(m) != 5 {
		t.Errorf("%d principals", members.Principals(m))
	}
	for principal, in := range [][3]bool{{true, false, false}, {false, true, false}, {false, false, true}, {true, false, true}, {false, true, false}} {
		for user, want := range in {
			if members.In(m, user, principal) != want {
				t.Errorf("user %d, principal %d", user, principal)
			}
		}
	}
	if members.In(m, 3, 3) || members.In(m, -1, 0) || members.In(m, 0, 5) || members.In(m, 0, -1) || members.In(api.Members{}, 0, 0) {
		t.Error("what is none")
	}
	if !members.IsUser(m, 2) || members.IsUser(m, 3) || members.IsUser(m, -1) {
		t.Error("IsUser")
	}
}

func TestWhatMayNotBe(t *testing.T) {
	for i, m := range []api.Members{
		{}, {Users: 17}, {Users: -1}, {Users: 2, Groups: make([][]int, 9)}, {Users: 2, Groups: [][]int{{}}},
		{Users: 2, Groups: [][]int{{2}}}, {Users: 2, Groups: [][]int{{-1}}}, {Users: 2, Groups: [][]int{{1, 0}}}, {Users: 2, Groups: [][]int{{1, 1}}},
	} {
		if members.May(m) {
			t.Errorf("case %d", i)
		}
	}
}
