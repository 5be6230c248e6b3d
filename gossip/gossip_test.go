package gossip_test

import (
	"math"
	"math/rand"
	"reflect"
	"slices"
	"strings"
	"testing"

	"almonry/api"
	"almonry/client"
	"almonry/evid"
	"almonry/gossip"
	"almonry/msgs"
	"almonry/net"
	"almonry/ops"
	"almonry/state"
)

// group tells the members of the tests here.
func group() api.Members {
	return api.Members{Users: 3, Groups: [][]int{{0, 1}}}
}

// seeds are their seeds.
func seeds() []string {
	return []string{"a", "b", "c"}
}

// newNet gives one that must be.
func newNet(t *testing.T) *net.Net {
	w, e := net.New(group(), seeds(), 2)
	if e != api.OK {
		t.Fatalf("error %d", e)
	}
	return w
}

// call does a user's call till nothing waits.
func call(w *net.Net, user int, x api.Call) {
	w.Do(api.Act{Kind: api.ActBegin, User: user, Call: x})
	for w.Waiting(user) != "" {
		w.Do(api.Act{Kind: api.ActDeliver, User: user})
	}
}

var stat = api.Call{Op: api.OpStat, Path: "/"}

// latest tells a client's last entry, which must be there.
func latest(t *testing.T, c *client.Client) api.Entry {
	e, ok := c.Latest()
	if !ok {
		t.Fatal("there is no entry")
	}
	return e
}

// P26.1: clients of one log are at one.
func TestDeliverOfOneLog(t *testing.T) {
	w := newNet(t)
	for i := range 5 {
		call(w, i%3, stat)
	}
	for from := range 3 {
		for to := range 3 {
			before := w.Client(to).View()
			x, fork, e := gossip.Deliver(w.Client(from), w.Client(to))
			if e != api.OK || fork || !reflect.DeepEqual(x, api.Evidence{}) || !reflect.DeepEqual(w.Client(to).View(), before) {
				t.Errorf("%d to %d: error %d", from, to, e)
			}
		}
	}
}

// P26.1: what cannot be delivered.
func TestWrongDelivers(t *testing.T) {
	w, other := newNet(t), newNet(t)
	call(w, 0, stat)
	strange, e := net.New(group(), []string{"x", "y", "z"}, 2)
	if e != api.OK {
		t.Fatalf("error %d", e)
	}
	call(strange, 1, stat)
	check := func(what string, from *client.Client, to *client.Client, want api.Errno) {
		t.Helper()
		if x, fork, e := gossip.Deliver(from, to); e != want || fork || !reflect.DeepEqual(x, api.Evidence{}) {
			t.Errorf("%s: error %d, not %d", what, e, want)
		}
	}
	check("from none", nil, w.Client(0), api.ErrNil)
	check("to none", w.Client(0), nil, api.ErrNil)
	check("to none, without an entry", other.Client(1), nil, api.ErrNil)
	check("both none", nil, nil, api.ErrNil)
	check("without an entry", other.Client(1), w.Client(0), api.ErrGossipForm)
	check("of other keys", strange.Client(1), w.Client(0), api.ErrGossipForm)
	check("to one without an entry", w.Client(0), other.Client(1), api.OK)
}

// P26.1: of a fork the evidence is told, which stands by itself.
func TestDeliverOfFork(t *testing.T) {
	w := newNet(t)
	call(w, 0, stat)
	w.Do(api.Act{Kind: api.ActBegin, User: 1, Call: stat})
	for _, m := range []api.Msg{{Kind: api.MsgEntries, User: 1}, {Kind: api.MsgDone, User: 1, From: 1}} {
		s, _ := msgs.Put(m)
		w.Do(api.Act{Kind: api.ActForge, User: 1, Bytes: s})
	}
	a, b := latest(t, w.Client(0)), latest(t, w.Client(1))
	x, fork, e := gossip.Deliver(w.Client(0), w.Client(1))
	if e != api.ErrGossipFork || !fork || !reflect.DeepEqual(x, api.Evidence{A: b, B: a}) {
		t.Errorf("error %d, %v", e, fork)
	}
	if v := w.Client(1).View(); !v.Fork || v.Phase != api.PhaseHalted || w.Client(0).View().Fork {
		t.Errorf("%v", v)
	}
	keys, _, _ := net.Keys(group(), seeds(), 2)
	if e := evid.Verify(keys, x); e != api.OK {
		t.Errorf("the evidence: error %d", e)
	}
	if _, fork, e := gossip.Deliver(w.Client(1), w.Client(0)); e != api.ErrGossipFork || !fork || !w.Client(0).View().Fork {
		t.Errorf("the other way: error %d", e)
	}
}

// sameAnswer says if two answers are one.
func sameAnswer(a api.Answer, b api.Answer) bool {
	return a.Code == b.Code && a.Stat == b.Stat && a.Data == b.Data && slices.Equal(a.Names, b.Names)
}

// model tells the answers of layer 17, one behind the other.
func model(t *testing.T, users []int, calls []api.Call) []api.Answer {
	s, _ := state.Empty(group())
	var all []api.Answer
	for i, x := range calls {
		next, answer, e := ops.Do(group(), s, users[i], x)
		if e != api.OK {
			t.Fatalf("error %d", e)
		}
		s = next
		all = append(all, answer)
	}
	return all
}

// P26.2, P26.3: the answers are the model's, in the calls' row.
func TestFair(t *testing.T) {
	users := []int{0, 1, 2, 1, 1, 0, 0, 2, 0}
	calls := []api.Call{
		{Op: api.OpMkdir, Path: "/d", As: 3}, {Op: api.OpCreate, Path: "/d/f", As: 1}, {Op: api.OpCreate, Path: "/d/g", As: 2},
		{Op: api.OpWrite, Path: "/d/f", Data: strings.Repeat("data", 300)}, {Op: api.OpCreate, Path: "/d/f", As: 1}, {Op: api.OpRead, Path: "/d/f", At: 1000, N: 500},
		{Op: api.OpRename, Path: "/d/f", Other: "/f"}, {Op: api.OpReaddir, Path: "/"}, {Op: api.OpStat, Path: "not a path"},
	}
	got, e := gossip.Fair(group(), seeds(), 2, users, calls)
	if want := model(t, users, calls); e != api.OK || !slices.EqualFunc(got, want, sameAnswer) {
		t.Errorf("error %d, %v; not %v", e, got, want)
	}
	if got, e := gossip.Fair(group(), seeds(), 1, nil, nil); e != api.OK || len(got) != 0 {
		t.Errorf("of no calls: error %d", e)
	}
}

// P26.3: many calls by chance.
func TestFairOfMany(t *testing.T) {
	r := rand.New(rand.NewSource(26))
	var users []int
	var calls []api.Call
	paths := []string{"/", "/a", "/b", "/a/b", "/a/c", "/b/c"}
	for range 60 {
		users = append(users, r.Intn(3))
		calls = append(calls, api.Call{Op: r.Intn(13), Path: paths[r.Intn(6)], Other: paths[r.Intn(6)], Data: strings.Repeat("w", r.Intn(200)), At: r.Intn(4), N: r.Intn(3), As: r.Intn(4)})
	}
	got, e := gossip.Fair(group(), seeds(), 3, users, calls)
	if want := model(t, users, calls); e != api.OK || !slices.EqualFunc(got, want, sameAnswer) {
		t.Errorf("error %d, %d answers", e, len(got))
	}
}

// P26.2: what cannot be done.
func TestWrongFairs(t *testing.T) {
	one := []api.Call{stat}
	long := make([]api.Call, api.MaxLog+1)
	for i, x := range []struct {
		m      api.Members
		seeds  []string
		height int
		users  []int
		calls  []api.Call
	}{
		{api.Members{}, nil, 1, nil, nil}, {group(), seeds()[:2], 1, []int{0}, one}, {group(), []string{"", "", strings.Repeat("s", 1025)}, 1, []int{0}, one},
		{group(), seeds(), 0, []int{0}, one}, {group(), seeds(), 6, []int{0}, one}, {api.Members{Users: 1, Groups: [][]int{{1}}}, []string{""}, 1, []int{0}, one},
		{group(), seeds(), 1, nil, one}, {group(), seeds(), 1, []int{0}, nil}, {group(), seeds(), 1, []int{0, 0}, one}, {group(), seeds(), 1, []int{-1}, one},
		{group(), seeds(), 1, []int{3}, one}, {group(), seeds(), 1, []int{math.MaxInt}, one}, {group(), seeds(), 1, make([]int, api.MaxLog+1), long},
		{group(), seeds(), 1, []int{0}, []api.Call{{Op: 13, Path: "/"}}}, {group(), seeds(), 1, []int{0, 1}, []api.Call{stat, {Op: -1}}},
		{group(), seeds(), 1, make([]int, 5), slices.Repeat(one, 5)},
	} {
		if got, e := gossip.Fair(x.m, x.seeds, x.height, x.users, x.calls); e != api.ErrGossipForm || got != nil {
			t.Errorf("case %d: error %d", i, e)
		}
	}
	if got, e := gossip.Fair(group(), seeds(), 1, make([]int, 4), slices.Repeat(one, 4)); e != api.OK || len(got) != 4 {
		t.Errorf("till the key is spent: error %d", e)
	}
}

// DOC.md's sizes: MaxLog calls of many users end soon.
func TestFairOfMaxLog(t *testing.T) {
	m := api.Members{Users: 16}
	var users []int
	var calls []api.Call
	for i := range api.MaxLog {
		users = append(users, i%16)
		calls = append(calls, stat)
	}
	got, e := gossip.Fair(m, make([]string, 16), 2, users, calls)
	if e != api.OK || len(got) != api.MaxLog {
		t.Errorf("error %d, %d answers", e, len(got))
	}
}
