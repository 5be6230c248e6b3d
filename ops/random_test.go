package ops_test

import (
	"math/rand"
	"strings"
	"testing"

	"almonry/api"
	"almonry/ops"
	"almonry/state"
)

// randomPath gives a path over few names, so that paths meet.
func randomPath(r *rand.Rand) string {
	names := []string{"a", "b", "c", "d", "e", "f", "g", "x", "y", "z", "new"}
	var p strings.Builder
	for range r.Intn(4) {
		p.WriteString("/" + names[r.Intn(len(names))])
	}
	if p.Len() == 0 {
		return "/"
	}
	return p.String()
}

// randomCall gives a call, most of which could be done.
func randomCall(r *rand.Rand) api.Call {
	return api.Call{
		Op: r.Intn(13), Path: randomPath(r), Other: randomPath(r), Data: strings.Repeat("w", r.Intn(1500)),
		At: r.Intn(20) - 1, N: r.Intn(20) - 1, As: r.Intn(6) - 1,
	}
}

// P17.3: whatever is called, the state then may be, and tables of principals that the user is not in stay.
func TestStatesStayStates(t *testing.T) {
	r := rand.New(rand.NewSource(17))
	done := map[int]int{}
	for range 12 {
		s := sample()
		for range 800 {
			user, c := r.Intn(3), randomCall(r)
			kept := normal(s)
			next, answer, e := ops.Do(group(), s, user, c)
			if e != api.OK || !state.May(next) || !same(s, kept) {
				t.Fatalf("%+v: error %d", c, e)
			}
			if answer.Code != api.OK && (!same(next, s) || !sameAnswer(answer, api.Answer{Code: answer.Code})) {
				t.Fatalf("%+v: a refused call changes or tells something", c)
			}
			if answer.Code == api.OK {
				done[c.Op]++
			}
			for principal := range next.Tables {
				one, other := api.State{Tables: next.Tables[principal : principal+1]}, api.State{Tables: s.Tables[principal : principal+1]}
				if !ops.In(group(), user, principal) && !same(one, other) {
					t.Fatalf("%+v: user %d changes the table of %d", c, user, principal)
				}
			}
			again, second, _ := ops.Do(group(), s, user, c)
			if !same(again, next) || !sameAnswer(second, answer) {
				t.Fatalf("%+v: another answer the second time", c)
			}
			s = next
		}
	}
	for op := range 13 {
		if done[op] == 0 {
			t.Errorf("operation %d was never done", op)
		}
	}
}

// R4: the state that is told shares no memory with the one that was handed in, refused calls' neither.
func TestStatesAreApart(t *testing.T) {
	for _, c := range []api.Call{{Op: api.OpStat, Path: "/"}, {Op: api.OpStat, Path: "/q"}, {Op: api.OpChmod, Path: "/a", N: 1}} {
		s := sample()
		next, _, _ := ops.Do(group(), s, 0, c)
		for _, table := range next.Tables {
			for i := range table {
				for j := range table[i].Ents {
					table[i].Ents[j].Name = "changed"
				}
				table[i].Data = "changed"
			}
		}
		if !same(s, sample()) {
			t.Errorf("%+v: memory is shared", c)
		}
	}
	a, one, _ := ops.Do(group(), sample(), 0, api.Call{Op: api.OpReaddir, Path: "/"})
	one.Names[0] = "changed"
	if a.Tables[0][0].Ents[0].Name != "a" {
		t.Error("Names are the state's")
	}
}
