package client_test

import (
	"fmt"
	"reflect"
	"slices"
	"testing"

	"almonry/api"
	"almonry/chain"
	"almonry/client"
	"almonry/disk"
	"almonry/entry"
	"almonry/hss"
	"almonry/msgs"
	"almonry/ops"
	"almonry/server"
	"almonry/state"
)

// world is what a test knows of all users: their keys, and one log that it can grow as a server could not.
type world struct {
	t      *testing.T
	keys   api.Keys
	own    []api.HssKey
	server *server.Server
	chain  *chain.Chain
	log    []api.Entry
	state  api.State
}

// newWorld makes one of three users and a group of the first two.
func newWorld(t *testing.T, height int) *world {
	return newWorldOf(t, 3, height)
}

// newWorldOf makes one of so many users.
func newWorldOf(t *testing.T, users int, height int) *world {
	w := &world{t: t, keys: api.Keys{Members: api.Members{Users: users, Groups: [][]int{{0, 1}}}}}
	for user := range users {
		key := keyOf(user, height)
		public, _ := hss.Public(key)
		w.keys.Publics = append(w.keys.Publics, public)
		w.own = append(w.own, key)
	}
	w.server, _ = server.New(w.keys)
	w.chain, _ = chain.New(w.keys)
	w.state, _ = state.Empty(w.keys.Members)
	return w
}

// keyOf is a user's key.
func keyOf(user int, height int) api.HssKey {
	return api.HssKey{Ots: api.OtsW4, Height: height, Id: fmt.Sprintf("id of user %05d", user), Seed: fmt.Sprintf("the seed of the key of user %04d", user)}
}

// newDisk gives a disk of so many sectors.
func newDisk(t *testing.T, sectors int) *disk.Disk {
	d, e := disk.New(sectors)
	if e != api.OK {
		t.Fatalf("error %d", e)
	}
	return d
}

// client gives a user's client on a disk.
func (w *world) client(user int, d *disk.Disk) *client.Client {
	w.t.Helper()
	c, e := client.New(w.keys, user, keyOf(user, w.own[user].Height), d)
	if e != api.OK || c == nil {
		w.t.Fatalf("New: error %d", e)
	}
	return c
}

// put tells a message's bytes, which must be.
func (w *world) put(m api.Msg) string {
	w.t.Helper()
	s, e := msgs.Put(m)
	if e != api.OK {
		w.t.Fatalf("Put: error %d", e)
	}
	return s
}

// begins begins a call that must be begun; the message asks for what is behind so many entries.
func (w *world) begins(c *client.Client, user int, x api.Call, from int) {
	w.t.Helper()
	s, e := c.Begin(x)
	if e != api.OK || s != w.put(api.Msg{Kind: api.MsgFetch, User: user, From: from}) || c.View().Phase != api.PhaseLog {
		w.t.Fatalf("Begin: error %d, %x", e, s)
	}
}

// takes hands a client a message, and looks what it tells and how it stands then.
func (w *world) takes(c *client.Client, m api.Msg, want api.Msg, phase int) {
	w.t.Helper()
	s, e := c.Take(w.put(m))
	if e != api.OK || s != w.put(want) || c.View().Phase != phase {
		got, _ := msgs.Get(s)
		w.t.Fatalf("Take: error %d, phase %d, kind %d of %d, %d wants; not phase %d, kind %d of %d, %d wants", e, c.View().Phase, got.Kind, got.From, len(got.Wants), phase, want.Kind, want.From, len(want.Wants))
	}
}

// refuses hands a client bytes that are over with its call, and looks that all else stays.
func (w *world) refuses(c *client.Client, s string) {
	w.t.Helper()
	before, files := c.View(), c.State()
	got, e := c.Take(s)
	if e != api.ErrClientReply || got != "" {
		w.t.Errorf("Take: error %d, %d bytes", e, len(got))
	}
	before.Phase = api.PhaseIdle
	if after := c.View(); !reflect.DeepEqual(after, before) || !same(c.State(), files) {
		w.t.Errorf("the client stands so: phase %d, %d entries, next %d; not phase %d, %d entries, next %d", after.Phase, after.Log.Size, after.Next, before.Phase, before.Log.Size, before.Next)
	}
	if _, ok := c.Answer(); ok {
		w.t.Error("there is an answer")
	}
}

// proposes hands a client a message, and tells what it proposes then.
func (w *world) proposes(c *client.Client, m api.Msg) api.Msg {
	w.t.Helper()
	s, e := c.Take(w.put(m))
	got, wrong := msgs.Get(s)
	if e != api.OK || wrong != api.OK || got.Kind != api.MsgAppend || len(got.Entries) != 1 || c.View().Phase != api.PhaseAppend {
		w.t.Fatalf("Take: error %d, kind %d, phase %d", e, got.Kind, c.View().Phase)
	}
	return got
}

// feeds hands a client objects till it proposes, and tells what.
func (w *world) feeds(c *client.Client, user int, objects []string) api.Msg {
	w.t.Helper()
	for range 9 {
		s, e := c.Take(w.put(api.Msg{Kind: api.MsgObjects, User: user, Objects: objects}))
		if e != api.OK {
			w.t.Fatalf("Take: error %d", e)
		}
		if m := mustGet(w.t, s); m.Kind == api.MsgAppend {
			return m
		}
	}
	w.t.Fatal("it never proposes")
	return api.Msg{}
}

// commits tells a client that its entry is the last of so many.
func (w *world) commits(c *client.Client, user int, from int) {
	w.t.Helper()
	s, e := c.Take(w.put(api.Msg{Kind: api.MsgDone, User: user, From: from}))
	if e != api.OK || s != "" || c.View().Phase != api.PhaseIdle || c.View().Log.Size != from {
		w.t.Fatalf("Take: error %d, phase %d, %d entries", e, c.View().Phase, c.View().Log.Size)
	}
}

// grows lets a user append what a call does to the world's log, and tells the objects then.
func (w *world) grows(user int, x api.Call) []string {
	w.t.Helper()
	next, _, e := ops.Do(w.keys.Members, w.state, user, x)
	if e != api.OK {
		w.t.Fatalf("error %d", e)
	}
	tables, objects, _ := state.Build(next)
	w.state = next
	w.adds(user, tables)
	return objects
}

// adds lets a user append such tables to the world's log.
func (w *world) adds(user int, tables []api.Hash) {
	w.t.Helper()
	e, wrong := w.chain.Next(user, tables)
	if wrong != api.OK {
		w.t.Fatalf("error %d", wrong)
	}
	e = w.sign(e)
	if wrong := w.chain.Add(e); wrong != api.OK {
		w.t.Fatalf("error %d", wrong)
	}
	w.log = append(w.log, e)
}

// sign signs an entry by its user's key.
func (w *world) sign(e api.Entry) api.Entry {
	w.t.Helper()
	signed, then, wrong := entry.Sign(e, w.own[e.User])
	if wrong != api.OK {
		w.t.Fatalf("error %d", wrong)
	}
	w.own[e.User] = then
	return signed
}

// tables tells those of the world's log now.
func (w *world) tables() []api.Hash {
	tables, _, _ := state.Build(w.state)
	return tables
}

// entries is a message that tells the world's log from a place on, up to another.
func (w *world) entries(user int, from int, to int) api.Msg {
	return api.Msg{Kind: api.MsgEntries, User: user, From: len(w.log), Entries: w.log[from:to]}
}

// runs does a call by the honest server, and tells its answer and the last message that the client handed over.
func (w *world) runs(c *client.Client, x api.Call) (api.Answer, api.Msg) {
	w.t.Helper()
	s, e := c.Begin(x)
	last := s
	for e == api.OK && s != "" {
		last = s
		s, e = c.Take(w.server.Take(s))
	}
	answer, ok := c.Answer()
	if e != api.OK || !ok || c.View().Phase != api.PhaseIdle {
		w.t.Fatalf("error %d, phase %d", e, c.View().Phase)
	}
	m, _ := msgs.Get(last)
	return answer, m
}

// mustGet tells the message of bytes, which must be one.
func mustGet(t *testing.T, s string) api.Msg {
	t.Helper()
	m, e := msgs.Get(s)
	if e != api.OK {
		t.Fatalf("Get: error %d", e)
	}
	return m
}

// normal is a state whose empty lists are all nil.
func normal(s api.State) api.State {
	var tables [][]api.Node
	for _, table := range s.Tables {
		var nodes []api.Node
		for _, n := range table {
			n.Ents = append([]api.Dirent(nil), n.Ents...)
			nodes = append(nodes, n)
		}
		tables = append(tables, nodes)
	}
	return api.State{Tables: tables}
}

// same says if two states are one.
func same(a api.State, b api.State) bool {
	return reflect.DeepEqual(normal(a), normal(b))
}

// sameAnswer says if two answers are one.
func sameAnswer(a api.Answer, b api.Answer) bool {
	return a.Code == b.Code && a.Stat == b.Stat && a.Data == b.Data && slices.Equal(a.Names, b.Names)
}

// Calls that the tests do.
var (
	stat   = api.Call{Op: api.OpStat, Path: "/"}
	mkdir  = api.Call{Op: api.OpMkdir, Path: "/d", As: 0}
	create = api.Call{Op: api.OpCreate, Path: "/f", As: 0}
	wrong  = api.Call{Op: 99, Path: "/"}
)
