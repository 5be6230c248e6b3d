package server_test

import (
	"fmt"
	"math"
	"reflect"
	"slices"
	"strings"
	"testing"

	"almonry/api"
	"almonry/chain"
	"almonry/entry"
	"almonry/hss"
	"almonry/msgs"
	"almonry/server"
	"almonry/state"
	"almonry/tag"
)

// world is a server, and what its users know: a chain of their own, their keys, the tables now.
type world struct {
	t      *testing.T
	server *server.Server
	chain  *chain.Chain
	keys   api.Keys
	own    []api.HssKey
	tables []api.Hash
	log    []api.Entry
}

// newWorld makes one of three users and a group of the first two.
func newWorld(t *testing.T) *world {
	w := &world{t: t, keys: api.Keys{Members: api.Members{Users: 3, Groups: [][]int{{0, 1}}}}}
	for user := range 3 {
		key := api.HssKey{Ots: api.OtsW4, Height: 2, Id: fmt.Sprintf("id of user %05d", user), Seed: fmt.Sprintf("the seed of the key of user %04d", user)}
		public, _ := hss.Public(key)
		w.keys.Publics = append(w.keys.Publics, public)
		w.own = append(w.own, key)
	}
	var e api.Errno
	if w.server, e = server.New(w.keys); e != api.OK || w.server == nil {
		t.Fatalf("New: error %d", e)
	}
	w.chain, _ = chain.New(w.keys)
	begin, _ := state.Empty(w.keys.Members)
	w.tables, _, _ = state.Build(begin)
	return w
}

// put tells a message's bytes, which must be.
func (w *world) put(m api.Msg) string {
	w.t.Helper()
	s, e := msgs.Put(m)
	if e != api.OK {
		w.t.Fatalf("Put: error %d", e)
	}
	return s
}

// answers looks that the server answers a message so.
func (w *world) answers(m api.Msg, want api.Msg) {
	w.t.Helper()
	w.answersBytes(w.put(m), w.put(want))
}

// answersBytes looks that it answers bytes so.
func (w *world) answersBytes(m string, want string) {
	w.t.Helper()
	if got := w.server.Take(m); got != want {
		a, _ := msgs.Get(got)
		b, _ := msgs.Get(want)
		w.t.Errorf("kind %d of %d, %d entries, %d objects; not kind %d of %d, %d entries, %d objects",
			a.Kind, a.From, len(a.Entries), len(a.Objects), b.Kind, b.From, len(b.Entries), len(b.Objects))
	}
}

// holds looks whose turn it is; nobody's is -1.
func (w *world) holds(want int) {
	w.t.Helper()
	user, ok := w.server.Holder()
	if ok != (want >= 0) || ok && user != want || !ok && user != 0 {
		w.t.Errorf("holder %d, %v; not %d", user, ok, want)
	}
}

// next gives a user's next entry, signed.
func (w *world) next(user int) api.Entry {
	w.t.Helper()
	e, errno := w.chain.Next(user, w.tables)
	if errno != api.OK {
		w.t.Fatalf("Next: error %d", errno)
	}
	return w.sign(e)
}

// sign signs an entry by its user's key.
func (w *world) sign(e api.Entry) api.Entry {
	w.t.Helper()
	signed, then, errno := entry.Sign(e, w.own[e.User])
	if errno != api.OK {
		w.t.Fatalf("Sign: error %d", errno)
	}
	w.own[e.User] = then
	return signed
}

// fetch lets a user take the turn.
func (w *world) fetch(user int) {
	w.t.Helper()
	w.answers(api.Msg{Kind: api.MsgFetch, User: user, From: len(w.log)}, api.Msg{Kind: api.MsgEntries, User: user, From: len(w.log)})
	w.holds(user)
}

// appends lets a user append an entry with objects, which must be taken.
func (w *world) appends(user int, objects ...string) {
	w.t.Helper()
	w.fetch(user)
	e := w.next(user)
	w.answers(api.Msg{Kind: api.MsgAppend, User: user, Entries: []api.Entry{e}, Objects: objects}, api.Msg{Kind: api.MsgDone, User: user, From: len(w.log) + 1})
	w.chain.Add(e)
	w.log = append(w.log, e)
	w.holds(-1)
	w.same()
}

// same looks that the server's log is the one that the users know.
func (w *world) same() {
	w.t.Helper()
	if !reflect.DeepEqual(w.server.Log(), w.chain.Log()) || !(len(w.log) == 0 && len(w.server.Entries()) == 0 || reflect.DeepEqual(w.server.Entries(), w.log)) {
		w.t.Errorf("the log has %d entries, not %d", w.server.Log().Size, len(w.log))
	}
}

// wants looks which objects the server tells of hashes.
func (w *world) wants(hashes []api.Hash, want ...string) {
	w.t.Helper()
	w.answers(api.Msg{Kind: api.MsgWant, User: 2, Wants: hashes}, api.Msg{Kind: api.MsgObjects, User: 2, Objects: want})
}

// hashOf is an object's hash.
func hashOf(data string) api.Hash {
	h, _ := tag.Sum(api.TagObject, data)
	return h
}

// P23.1: a new server, and keys that may not be.
func TestNew(t *testing.T) {
	w := newWorld(t)
	w.same()
	w.holds(-1)
	begin, _ := state.Empty(w.keys.Members)
	_, objects, _ := state.Build(begin)
	var hashes []api.Hash
	for _, o := range objects {
		hashes = append(hashes, hashOf(o))
	}
	w.wants(hashes, objects...)
	for i, k := range []api.Keys{{}, {Members: w.keys.Members}, {Members: w.keys.Members, Publics: w.keys.Publics[:2]}, {Members: api.Members{Users: 3, Groups: [][]int{{3}}}, Publics: w.keys.Publics}} {
		if s, e := server.New(k); s != nil || e != api.ErrServerForm {
			t.Errorf("keys %d: error %d", i, e)
		}
	}
}

// P23.2: what is not answered.
func TestNoAnswer(t *testing.T) {
	w := newWorld(t)
	fetch := w.put(api.Msg{Kind: api.MsgFetch, User: 1})
	for _, s := range []string{"", "MG", fetch[:8], fetch + "a", strings.Repeat("a", 70000)} {
		w.answersBytes(s, "")
	}
	for _, user := range []int{3, 4, 255} {
		w.answersBytes(w.put(api.Msg{Kind: api.MsgFetch, User: user}), "")
		w.answersBytes(w.put(api.Msg{Kind: api.MsgWant, User: user}), "")
		w.answersBytes(w.put(api.Msg{Kind: api.MsgAppend, User: user}), "")
	}
	for _, kind := range []int{api.MsgEntries, api.MsgObjects, api.MsgDone, api.MsgBusy} {
		w.answersBytes(w.put(api.Msg{Kind: kind, User: 1}), "")
	}
	w.holds(-1)
	w.same()
}

// P23.2: MsgFetch, alone and while another user holds the turn.
func TestFetch(t *testing.T) {
	w := newWorld(t)
	for range 5 {
		w.appends(0)
	}
	w.appends(2)
	for _, from := range []int{0, 1, 4, 5, 6, 7, 256, 65535} {
		w.answers(api.Msg{Kind: api.MsgFetch, User: 1, From: from, Objects: []string{"not asked"}},
			api.Msg{Kind: api.MsgEntries, User: 1, From: 6, Entries: w.log[min(from, 6):]})
		w.holds(1)
	}
	for _, user := range []int{0, 2} {
		w.answers(api.Msg{Kind: api.MsgFetch, User: user}, api.Msg{Kind: api.MsgBusy, User: user, From: 6})
		w.holds(1)
	}
}

// P23.2: as many entries as there may be in a message.
func TestFetchOfMany(t *testing.T) {
	w := newWorld(t)
	for i := range 30 {
		w.appends(i % 3)
	}
	size := func(n int) int {
		all := 9
		for _, e := range w.log[:n] {
			bytes, _ := entry.Put(e)
			all += 2 + len(bytes)
		}
		return all
	}
	n := 0
	for size(n+1) <= api.MaxText {
		n++
	}
	if n < 10 || n >= 20 {
		t.Fatalf("%d entries fit", n)
	}
	w.answers(api.Msg{Kind: api.MsgFetch, User: 1}, api.Msg{Kind: api.MsgEntries, User: 1, From: 30, Entries: w.log[:n]})
	w.answers(api.Msg{Kind: api.MsgFetch, User: 1, From: n}, api.Msg{Kind: api.MsgEntries, User: 1, From: 30, Entries: w.log[n : 2*n]})
	w.answers(api.Msg{Kind: api.MsgFetch, User: 1, From: 2 * n}, api.Msg{Kind: api.MsgEntries, User: 1, From: 30, Entries: w.log[2*n:]})
}

// P23.2: MsgWant.
func TestWant(t *testing.T) {
	w := newWorld(t)
	long := strings.Repeat("l", api.MaxObject)
	w.appends(0, "one", "two", "", long)
	w.wants(nil)
	w.wants([]api.Hash{hashOf("two")}, "two")
	w.wants([]api.Hash{hashOf("one"), hashOf("none"), {}, hashOf("two"), hashOf(""), hashOf("one")}, "one", "", "", "two", "", "one")
	w.wants(make([]api.Hash, api.MaxWant), make([]string, api.MaxWant)...)
	w.answersBytes(w.put(api.Msg{Kind: api.MsgWant, User: 1, Wants: make([]api.Hash, api.MaxWant+1)}), "")
	w.wants(slices.Repeat([]api.Hash{hashOf(long)}, 15), slices.Repeat([]string{long}, 15)...)
	w.wants(slices.Repeat([]api.Hash{hashOf(long)}, 64), slices.Repeat([]string{long}, 15)...)
	w.wants(append(slices.Repeat([]api.Hash{hashOf(long)}, 16), hashOf("one")), slices.Repeat([]string{long}, 15)...)
	w.fetch(0)
	w.wants([]api.Hash{hashOf("one")}, "one")
	w.holds(0)
}

// P23.2: messages that just fill a message.
func TestWantJustFits(t *testing.T) {
	w := newWorld(t)
	long, rest := strings.Repeat("l", api.MaxObject), strings.Repeat("r", api.MaxText-9-15*(api.MaxObject+2)-2)
	w.appends(0, long, rest, rest+"r")
	hashes := slices.Repeat([]api.Hash{hashOf(long)}, 15)
	w.wants(append(slices.Clone(hashes), hashOf(rest)), append(slices.Repeat([]string{long}, 15), rest)...)
	w.wants(append(slices.Clone(hashes), hashOf(rest+"r")), slices.Repeat([]string{long}, 15)...)
	w.wants(append(slices.Clone(hashes), hashOf(rest), hashOf("")), append(slices.Repeat([]string{long}, 15), rest)...)
}

// P23.2: MsgAppend that is not taken: the turn is over, nothing is held.
func TestWrongAppends(t *testing.T) {
	w := newWorld(t)
	w.appends(0, "first")
	good := w.next(1)
	other := good
	other.Root = api.Hash{1}
	unsigned := good
	unsigned.Sign = ""
	foreign := good
	foreign.Tables = slices.Clone(good.Tables)
	foreign.Tables[0] = api.Hash{1}
	theirs := w.next(2)
	for _, m := range []api.Msg{
		{}, {Entries: []api.Entry{good, good}}, {Entries: []api.Entry{other}}, {Entries: []api.Entry{w.sign(other)}}, {Entries: []api.Entry{unsigned}},
		{Entries: []api.Entry{w.sign(foreign)}}, {Entries: []api.Entry{theirs}}, {Entries: []api.Entry{w.log[0]}},
		{Entries: []api.Entry{good}, Objects: []string{"new", strings.Repeat("x", api.MaxObject+1)}},
	} {
		w.fetch(1)
		m.Kind, m.User = api.MsgAppend, 1
		if m.Objects == nil {
			m.Objects = []string{"new"}
		}
		w.answers(m, api.Msg{Kind: api.MsgBusy, User: 1, From: 1})
		w.holds(-1)
		w.same()
		w.wants([]api.Hash{hashOf("new")}, "")
	}
	right := api.Msg{Kind: api.MsgAppend, User: 1, Entries: []api.Entry{good}, Objects: []string{"new"}}
	w.answers(right, api.Msg{Kind: api.MsgBusy, User: 1, From: 1})
	w.fetch(2)
	w.answers(right, api.Msg{Kind: api.MsgBusy, User: 1, From: 1})
	w.holds(2)
	w.answers(api.Msg{Kind: api.MsgAppend, User: 2, Entries: []api.Entry{good}}, api.Msg{Kind: api.MsgBusy, User: 2, From: 1})
	w.holds(-1)
	w.wants([]api.Hash{hashOf("new"), hashOf("first")}, "", "first")
	w.fetch(1)
	w.answers(right, api.Msg{Kind: api.MsgDone, User: 1, From: 2})
	w.wants([]api.Hash{hashOf("new")}, "new")
	w.holds(-1)
}

// P23.2: a store that has no room for all objects takes none of them.
func TestFullStore(t *testing.T) {
	w := newWorld(t)
	begin, _ := state.Empty(w.keys.Members)
	_, objects, _ := state.Build(begin)
	held := len(objects)
	for held < api.MaxObjects-1 {
		var some []string
		for len(some) < min(255, api.MaxObjects-1-held) {
			some = append(some, fmt.Sprintf("object %d", held+len(some)))
		}
		w.appends(0, some...)
		held += len(some)
	}
	tries := func(want int, objects ...string) {
		t.Helper()
		w.fetch(1)
		e := w.next(1)
		from := len(w.log)
		if want == api.MsgDone {
			from++
			w.log = append(w.log, e)
			w.chain.Add(e)
		}
		w.answers(api.Msg{Kind: api.MsgAppend, User: 1, Entries: []api.Entry{e}, Objects: objects}, api.Msg{Kind: want, User: 1, From: from})
	}
	tries(api.MsgBusy, "a", "b")
	w.wants([]api.Hash{hashOf("a"), hashOf("b")}, "", "")
	tries(api.MsgDone, "a", "a", "object 9", "a")
	tries(api.MsgBusy, "b")
	tries(api.MsgDone, "a", "object 10", "object 11")
	tries(api.MsgDone)
	w.wants([]api.Hash{hashOf("a"), hashOf("b")}, "a", "")
	w.same()
}

// P23.3: a turn is over when its ticks are; each fetch gives it Lease ticks.
func TestTick(t *testing.T) {
	w := newWorld(t)
	tick := func(n int) {
		t.Helper()
		if e := w.server.Tick(n); e != api.OK {
			t.Errorf("Tick of %d: error %d", n, e)
		}
	}
	tick(0)
	tick(1000)
	w.holds(-1)
	w.fetch(1)
	tick(0)
	w.holds(1)
	tick(9)
	w.holds(1)
	tick(0)
	w.holds(1)
	tick(1)
	w.holds(-1)
	w.fetch(2)
	tick(10)
	w.holds(-1)
	w.fetch(0)
	tick(1000)
	w.holds(-1)
	w.fetch(0)
	tick(9)
	w.fetch(0)
	tick(9)
	w.holds(0)
	w.answers(api.Msg{Kind: api.MsgFetch, User: 1}, api.Msg{Kind: api.MsgBusy, User: 1})
	tick(1)
	w.holds(-1)
	w.fetch(1)
	for _, n := range []int{-1, 1001, math.MinInt, math.MaxInt} {
		if e := w.server.Tick(n); e != api.ErrServerForm {
			t.Errorf("Tick of %d: error %d", n, e)
		}
		w.holds(1)
	}
	tick(9)
	w.holds(1)
	e := w.next(1)
	tick(1)
	w.answers(api.Msg{Kind: api.MsgAppend, User: 1, Entries: []api.Entry{e}}, api.Msg{Kind: api.MsgBusy, User: 1})
	w.appends(2)
}

// R4: what is told is not what the server holds.
func TestListsAreApart(t *testing.T) {
	w := newWorld(t)
	w.appends(0)
	es, l := w.server.Entries(), w.server.Log()
	es[0].Vec[0], es[0].Tables[0], l.Last.Vec[0] = 99, api.Hash{99}, 99
	w.keys.Members.Groups[0][0] = 1
	w.same()
	w.appends(1)
}

// R3: methods of a nil server.
func TestNilServer(t *testing.T) {
	var s *server.Server
	user, ok := s.Holder()
	fetch, _ := msgs.Put(api.Msg{Kind: api.MsgFetch})
	if s.Take(fetch) != "" || s.Tick(1) != api.ErrNil || s.Entries() != nil || !reflect.DeepEqual(s.Log(), api.Log{}) || user != 0 || ok {
		t.Error("a nil server")
	}
}
