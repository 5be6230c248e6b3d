package net_test

import (
	"math"
	"math/rand"
	"reflect"
	"slices"
	"strings"
	"testing"

	"almonry/api"
	"almonry/client"
	"almonry/hss"
	"almonry/msgs"
	"almonry/net"
	"almonry/ops"
	"almonry/state"
	"almonry/tag"
)

// group tells the members of most tests here.
func group() api.Members {
	return api.Members{Users: 3, Groups: [][]int{{0, 1}}}
}

// seeds are those of three users.
func seeds() []string {
	return []string{"seed of 0", "", strings.Repeat("s", 1024)}
}

// newNet gives one that must be.
func newNet(t *testing.T, height int) *net.Net {
	w, e := net.New(group(), seeds(), height)
	if e != api.OK || w == nil {
		t.Fatalf("New: error %d", e)
	}
	return w
}

// Calls that the tests do.
var (
	stat   = api.Call{Op: api.OpStat, Path: "/"}
	mkdir  = api.Call{Op: api.OpMkdir, Path: "/d", As: 3}
	create = api.Call{Op: api.OpCreate, Path: "/d/f", As: 1}
	names  = api.Call{Op: api.OpReaddir, Path: "/"}
)

// do does an act that must be done.
func do(t *testing.T, w *net.Net, a api.Act) {
	t.Helper()
	if e := w.Do(a); e != api.OK {
		t.Fatalf("Do of %d: error %d", a.Kind, e)
	}
}

// call does a user's call till nothing waits.
func call(t *testing.T, w *net.Net, user int, x api.Call) {
	t.Helper()
	do(t, w, api.Act{Kind: api.ActBegin, User: user, Call: x})
	for w.Waiting(user) != "" {
		do(t, w, api.Act{Kind: api.ActDeliver, User: user})
	}
}

// kind tells what kind of message waits; -1, if none does.
func kind(w *net.Net, user int) int {
	m, e := msgs.Get(w.Waiting(user))
	if e != api.OK {
		return -1
	}
	return m.Kind
}

// sameAnswer says if two answers are one.
func sameAnswer(a api.Answer, b api.Answer) bool {
	return a.Code == b.Code && a.Stat == b.Stat && a.Data == b.Data && slices.Equal(a.Names, b.Names)
}

// P25.1: the keys of seeds.
func TestKeys(t *testing.T) {
	for height := 1; height <= api.MaxHeight; height++ {
		keys, own, e := net.Keys(group(), seeds(), height)
		if e != api.OK || !reflect.DeepEqual(keys.Members, group()) || len(keys.Publics) != 3 || len(own) != 3 {
			t.Fatalf("height %d: error %d", height, e)
		}
		for user, seed := range seeds() {
			id, _ := tag.Sum(api.TagChild, seed)
			inner, _ := tag.Sum(api.TagSeed, seed)
			want := api.HssKey{Ots: api.OtsW4, Height: height, Id: string(id[:16]), Seed: string(inner[:])}
			public, _ := hss.Public(want)
			if own[user] != want || keys.Publics[user] != public {
				t.Errorf("height %d, user %d", height, user)
			}
		}
	}
	m := group()
	keys, _, _ := net.Keys(m, seeds(), 1)
	m.Groups[0][0] = 1
	if keys.Members.Groups[0][0] != 0 {
		t.Error("members are shared")
	}
}

// P25.1: what there are no keys of.
func TestWrongKeys(t *testing.T) {
	for i, x := range []struct {
		m      api.Members
		seeds  []string
		height int
	}{
		{api.Members{}, nil, 1}, {api.Members{Users: 17}, make([]string, 17), 1}, {api.Members{Users: 1, Groups: [][]int{{1}}}, []string{""}, 1},
		{group(), nil, 1}, {group(), seeds()[:2], 1}, {group(), append(seeds(), ""), 1}, {group(), []string{"", strings.Repeat("s", 1025), ""}, 1},
		{group(), seeds(), 0}, {group(), seeds(), 6}, {group(), seeds(), -1}, {group(), seeds(), math.MinInt}, {group(), seeds(), math.MaxInt},
	} {
		if keys, own, e := net.Keys(x.m, x.seeds, x.height); e != api.ErrNetForm || own != nil || !reflect.DeepEqual(keys, api.Keys{}) {
			t.Errorf("case %d: Keys: error %d", i, e)
		}
		if w, e := net.New(x.m, x.seeds, x.height); e != api.ErrNetForm || w != nil {
			t.Errorf("case %d: New: error %d", i, e)
		}
	}
}

// P25.1: a new net: nothing waits, nothing is answered, all logs are empty.
func TestNew(t *testing.T) {
	w := newNet(t, 1)
	if w.Server() == nil || w.Server().Log().Size != 0 {
		t.Error("the server")
	}
	for user := range 3 {
		if w.Waiting(user) != "" || len(w.Answers(user)) != 0 || w.Client(user) == nil || w.Client(user).View().Log.Size != 0 {
			t.Errorf("user %d", user)
		}
	}
	for _, user := range []int{-1, 3, math.MaxInt, math.MinInt} {
		if w.Waiting(user) != "" || w.Answers(user) != nil || w.Client(user) != nil {
			t.Errorf("user %d is there", user)
		}
	}
}

// P25.2: acts that are none.
func TestWrongActs(t *testing.T) {
	w := newNet(t, 1)
	for _, kind := range []int{-1, 6, math.MinInt, math.MaxInt} {
		if e := w.Do(api.Act{Kind: kind}); e != api.ErrNetForm {
			t.Errorf("kind %d: error %d", kind, e)
		}
	}
	for kind := api.ActBegin; kind <= api.ActGossip; kind++ {
		for _, user := range []int{-1, 3, math.MaxInt} {
			want := api.ErrNetForm
			if kind == api.ActTick {
				want = api.OK
			}
			if e := w.Do(api.Act{Kind: kind, User: user, Call: stat}); e != want {
				t.Errorf("kind %d, user %d: error %d", kind, user, e)
			}
			if e := w.Do(api.Act{Kind: api.ActGossip, Other: user}); e != api.ErrNetForm {
				t.Errorf("gossip to %d: error %d", user, e)
			}
		}
	}
	for _, n := range []int{-1, 1001, math.MaxInt} {
		if e := w.Do(api.Act{Kind: api.ActTick, N: n}); e != api.ErrNetForm {
			t.Errorf("tick of %d: error %d", n, e)
		}
	}
}

// P25.2: calls that are begun and delivered, step by step.
func TestBeginAndDeliver(t *testing.T) {
	w := newNet(t, 2)
	do(t, w, api.Act{Kind: api.ActDeliver, User: 0})
	if w.Waiting(0) != "" || w.Server().Log().Size != 0 {
		t.Error("what does not wait is delivered")
	}
	do(t, w, api.Act{Kind: api.ActBegin, User: 0, Call: mkdir})
	first := w.Waiting(0)
	if kind(w, 0) != api.MsgFetch || w.Waiting(1) != "" {
		t.Errorf("kind %d waits", kind(w, 0))
	}
	do(t, w, api.Act{Kind: api.ActBegin, User: 0, Call: stat})
	if w.Waiting(0) != first {
		t.Error("a call that cannot be begun changes something")
	}
	do(t, w, api.Act{Kind: api.ActDeliver, User: 0})
	if holder, ok := w.Server().Holder(); kind(w, 0) != api.MsgAppend || holder != 0 || !ok {
		t.Errorf("kind %d waits", kind(w, 0))
	}
	do(t, w, api.Act{Kind: api.ActBegin, User: 1, Call: names})
	do(t, w, api.Act{Kind: api.ActDeliver, User: 1})
	if kind(w, 1) != api.MsgFetch || len(w.Answers(0)) != 0 {
		t.Errorf("kind %d waits while another one holds the turn", kind(w, 1))
	}
	do(t, w, api.Act{Kind: api.ActDeliver, User: 0})
	if w.Waiting(0) != "" || len(w.Answers(0)) != 1 || w.Answers(0)[0].Stat.Ref != (api.Ref{Owner: 3, Num: 1}) || w.Server().Log().Size != 1 {
		t.Errorf("%v", w.Answers(0))
	}
	do(t, w, api.Act{Kind: api.ActDeliver, User: 1})
	if kind(w, 1) != api.MsgWant {
		t.Errorf("kind %d waits", kind(w, 1))
	}
	for w.Waiting(1) != "" {
		do(t, w, api.Act{Kind: api.ActDeliver, User: 1})
	}
	if as := w.Answers(1); len(as) != 1 || !slices.Equal(as[0].Names, []string{"d"}) || len(w.Answers(0)) != 1 {
		t.Errorf("%v", as)
	}
}

// P25.2: a call that comes to an error leaves nothing to wait; a turn that is held goes over with the ticks.
func TestErrorsAndTicks(t *testing.T) {
	w := newNet(t, 2)
	do(t, w, api.Act{Kind: api.ActBegin, User: 0, Call: api.Call{Op: 99}})
	do(t, w, api.Act{Kind: api.ActDeliver, User: 0})
	if w.Waiting(0) != "" || len(w.Answers(0)) != 0 || w.Client(0).View().Phase != api.PhaseIdle {
		t.Error("a call that is none")
	}
	do(t, w, api.Act{Kind: api.ActBegin, User: 1, Call: stat})
	do(t, w, api.Act{Kind: api.ActTick, N: 9})
	do(t, w, api.Act{Kind: api.ActDeliver, User: 1})
	if kind(w, 1) != api.MsgFetch {
		t.Errorf("kind %d waits", kind(w, 1))
	}
	do(t, w, api.Act{Kind: api.ActTick, N: 1, User: -5})
	do(t, w, api.Act{Kind: api.ActDeliver, User: 1})
	if kind(w, 1) != api.MsgAppend {
		t.Errorf("kind %d waits", kind(w, 1))
	}
}

// P25.2: ActForge hands a client bytes that the server did not tell.
func TestForge(t *testing.T) {
	w := newNet(t, 2)
	forge := func(user int, m api.Msg) {
		t.Helper()
		s, _ := msgs.Put(m)
		do(t, w, api.Act{Kind: api.ActForge, User: user, Bytes: s})
	}
	forge(0, api.Msg{Kind: api.MsgEntries})
	if w.Waiting(0) != "" || len(w.Answers(0)) != 0 {
		t.Error("an idle client")
	}
	do(t, w, api.Act{Kind: api.ActBegin, User: 0, Call: mkdir})
	forge(0, api.Msg{Kind: api.MsgEntries})
	if kind(w, 0) != api.MsgAppend || w.Server().Log().Size != 0 {
		t.Errorf("kind %d waits", kind(w, 0))
	}
	forge(0, api.Msg{Kind: api.MsgDone, From: 1})
	if w.Waiting(0) != "" || len(w.Answers(0)) != 1 || w.Client(0).View().Log.Size != 1 || w.Server().Log().Size != 0 {
		t.Errorf("%d answers", len(w.Answers(0)))
	}
	forge(0, api.Msg{Kind: api.MsgDone, From: 2})
	if len(w.Answers(0)) != 1 {
		t.Errorf("%d answers", len(w.Answers(0)))
	}
	do(t, w, api.Act{Kind: api.ActBegin, User: 1, Call: stat})
	do(t, w, api.Act{Kind: api.ActForge, User: 1, Bytes: "no message"})
	if w.Waiting(1) != "" || w.Client(1).View().Phase != api.PhaseIdle {
		t.Error("what waited waits yet")
	}
}

// P25.2: ActCrash puts a new client on the disk; the answers stay.
func TestCrash(t *testing.T) {
	w := newNet(t, 2)
	call(t, w, 0, mkdir)
	call(t, w, 0, stat)
	do(t, w, api.Act{Kind: api.ActBegin, User: 0, Call: names})
	do(t, w, api.Act{Kind: api.ActDeliver, User: 0})
	if kind(w, 0) != api.MsgAppend {
		t.Fatalf("kind %d waits", kind(w, 0))
	}
	old := w.Client(0)
	do(t, w, api.Act{Kind: api.ActCrash, User: 0, N: 5})
	v := w.Client(0).View()
	if w.Client(0) == old || w.Waiting(0) != "" || v.Phase != api.PhaseIdle || v.Log.Size != 0 || v.Next != 3 || len(w.Answers(0)) != 2 {
		t.Errorf("the client stands so: %v", v)
	}
	do(t, w, api.Act{Kind: api.ActTick, N: 1000})
	call(t, w, 0, names)
	if as := w.Answers(0); len(as) != 3 || !slices.Equal(as[2].Names, []string{"d"}) || w.Client(0).View().Next != 4 {
		t.Errorf("%v", as)
	}
	do(t, w, api.Act{Kind: api.ActBegin, User: 1, Call: names})
	do(t, w, api.Act{Kind: api.ActCrash, User: 0})
	if kind(w, 1) != api.MsgFetch {
		t.Error("another user's message is gone")
	}
}

// P25.2: ActGossip lets one hear of another; of one log there is no fork, of two there is.
func TestGossip(t *testing.T) {
	w := newNet(t, 2)
	do(t, w, api.Act{Kind: api.ActGossip, User: 0, Other: 1})
	call(t, w, 0, mkdir)
	call(t, w, 1, create)
	do(t, w, api.Act{Kind: api.ActGossip, User: 0, Other: 1})
	do(t, w, api.Act{Kind: api.ActGossip, User: 1, Other: 0})
	do(t, w, api.Act{Kind: api.ActGossip, User: 1, Other: 1})
	for user := range 3 {
		if v := w.Client(user).View(); v.Fork || v.Phase != api.PhaseIdle {
			t.Errorf("user %d: %v", user, v)
		}
	}
	s, _ := msgs.Put(api.Msg{Kind: api.MsgEntries, User: 2})
	do(t, w, api.Act{Kind: api.ActBegin, User: 2, Call: stat})
	do(t, w, api.Act{Kind: api.ActForge, User: 2, Bytes: s})
	s, _ = msgs.Put(api.Msg{Kind: api.MsgDone, User: 2, From: 1})
	do(t, w, api.Act{Kind: api.ActForge, User: 2, Bytes: s})
	do(t, w, api.Act{Kind: api.ActGossip, User: 0, Other: 2})
	do(t, w, api.Act{Kind: api.ActGossip, User: 2, Other: 1})
	for user, fork := range []bool{false, true, true} {
		if v := w.Client(user).View(); v.Fork != fork || (v.Phase == api.PhaseHalted) != fork {
			t.Errorf("user %d: fork %v", user, v.Fork)
		}
	}
}

// P25.2: with the honest server, whatever the script, all have one log, and the answers are the model's in its row.
func TestHonestScripts(t *testing.T) {
	r := rand.New(rand.NewSource(25))
	w := newNet(t, 3)
	last := map[int]api.Call{}
	files, _ := state.Empty(group())
	want := map[int][]api.Answer{}
	for step := range 1200 {
		user := r.Intn(3)
		size := w.Server().Log().Size
		switch r.Intn(12) {
		case 0:
			do(t, w, api.Act{Kind: api.ActCrash, User: user, N: r.Int()})
		case 1:
			do(t, w, api.Act{Kind: api.ActTick, N: r.Intn(12)})
		case 2:
			do(t, w, api.Act{Kind: api.ActGossip, User: user, Other: r.Intn(3)})
		case 3, 4:
			x := []api.Call{mkdir, create, names, stat, {Op: api.OpWrite, Path: "/d/f", Data: strings.Repeat("w", r.Intn(300))}, {Op: api.OpRead, Path: "/d/f", N: 500}}[r.Intn(6)]
			if w.Client(user).View().Phase == api.PhaseIdle {
				last[user] = x
			}
			do(t, w, api.Act{Kind: api.ActBegin, User: user, Call: x})
		default:
			do(t, w, api.Act{Kind: api.ActDeliver, User: user})
		}
		if w.Server().Log().Size > size {
			var answer api.Answer
			files, answer, _ = ops.Do(group(), files, user, last[user])
			want[user] = append(want[user], answer)
		}
		if !slices.EqualFunc(w.Answers(user), want[user], sameAnswer) {
			t.Fatalf("step %d: user %d has %d answers, not %d", step, user, len(w.Answers(user)), len(want[user]))
		}
		log := w.Client(user).View().Log
		if log.Size > 0 && !reflect.DeepEqual(log.Last, w.Server().Entries()[log.Size-1]) || w.Client(user).View().Fork {
			t.Fatalf("step %d: user %d has another log", step, user)
		}
	}
	if w.Server().Log().Size < 25 {
		t.Errorf("%d entries", w.Server().Log().Size)
	}
}

// R4: what is told is not what the net holds; clients and server are the net's own.
func TestAnswersAreApart(t *testing.T) {
	w := newNet(t, 1)
	call(t, w, 0, mkdir)
	call(t, w, 0, names)
	as := w.Answers(0)
	as[1].Names[0], as[0] = "changed", api.Answer{}
	if again := w.Answers(0); again[1].Names[0] != "d" || again[0].Stat.Kind != api.KindDir {
		t.Error("answers are shared")
	}
	var same *client.Client = w.Client(0)
	if same != w.Client(0) || w.Server() != w.Server() {
		t.Error("other objects are handed out")
	}
}

// R3: methods of a nil net.
func TestNilNet(t *testing.T) {
	var w *net.Net
	if w.Do(api.Act{Kind: api.ActTick}) != api.ErrNil || w.Waiting(0) != "" || w.Answers(0) != nil || w.Client(0) != nil || w.Server() != nil {
		t.Error("a nil net")
	}
}
