package client_test

import (
	"encoding/binary"
	"math"
	"reflect"
	"slices"
	"strings"
	"testing"

	"almonry/api"
	"almonry/client"
	"almonry/disk"
	"almonry/hss"
	"almonry/journal"
	"almonry/mlog"
	"almonry/ops"
	"almonry/state"
	"almonry/tag"
)

// content tells all sectors of a disk.
func content(d *disk.Disk) string {
	var all strings.Builder
	for at := range d.Sectors() {
		s, _ := d.Read(at)
		all.WriteString(s)
	}
	return all.String()
}

// journaled gives a disk with such records.
func journaled(t *testing.T, records ...api.Record) *disk.Disk {
	d := newDisk(t, 64)
	j, _, _ := journal.Open(d)
	for _, r := range records {
		if e := j.Append(r); e != api.OK {
			t.Fatalf("error %d", e)
		}
	}
	j.Sync()
	return d
}

// index and pinned make records.
func index(next uint32) api.Record {
	return api.Record{Kind: api.RecordIndex, Data: string(binary.BigEndian.AppendUint32(nil, next))}
}

func pinned(size uint16, root api.Hash) api.Record {
	return api.Record{Kind: api.RecordLog, Data: string(binary.BigEndian.AppendUint16(nil, size)) + string(root[:])}
}

// records tells those on a disk.
func records(d *disk.Disk) []api.Record {
	_, all, _ := journal.Open(d)
	return all
}

// P24.1: a new client, and what it is not made of.
func TestNew(t *testing.T) {
	w := newWorld(t, 1)
	for user := range 3 {
		c := w.client(user, newDisk(t, 9))
		want := api.View{Log: api.Log{Root: mlog.Root(nil)}}
		if v := c.View(); !reflect.DeepEqual(v, want) {
			t.Errorf("user %d: %v", user, v)
		}
		if _, ok := c.Latest(); ok || len(c.State().Tables) != 0 {
			t.Errorf("user %d: there is something", user)
		}
		if _, ok := c.Answer(); ok {
			t.Errorf("user %d: there is an answer", user)
		}
	}
	d := newDisk(t, 9)
	d.Write(3, strings.Repeat("x", 64))
	kept := content(d)
	odd, spent := keyOf(0, 1), keyOf(0, 1)
	odd.Height, spent.Next = 6, 5
	for i, x := range []struct {
		keys api.Keys
		user int
		key  api.HssKey
	}{
		{api.Keys{}, 0, keyOf(0, 1)}, {api.Keys{Members: w.keys.Members, Publics: w.keys.Publics[:2]}, 0, keyOf(0, 1)},
		{w.keys, -1, keyOf(0, 1)}, {w.keys, 3, keyOf(0, 1)}, {w.keys, math.MaxInt, keyOf(0, 1)},
		{w.keys, 0, keyOf(1, 1)}, {w.keys, 1, keyOf(0, 1)}, {w.keys, 0, keyOf(0, 2)}, {w.keys, 0, odd}, {w.keys, 0, spent}, {w.keys, 0, api.HssKey{}},
	} {
		if c, e := client.New(x.keys, x.user, x.key, d); c != nil || e != api.ErrClientForm || content(d) != kept || d.Dirty() != 1 {
			t.Errorf("case %d: error %d", i, e)
		}
		if c, e := client.New(x.keys, x.user, x.key, nil); c != nil || e != api.ErrNil {
			t.Errorf("case %d, no disk: error %d", i, e)
		}
	}
}

// P24.1: the key's next index is the greatest that the key and the journal tell.
func TestIndexOfJournal(t *testing.T) {
	w := newWorld(t, 1)
	long, short := index(3), index(3)
	long.Data, short.Data = long.Data+"\x00", short.Data[1:]
	other := index(3)
	other.Kind = 2
	asLog := index(3)
	asLog.Kind = api.RecordLog
	for i, x := range []struct {
		key     int
		records []api.Record
		want    int
	}{
		{0, nil, 0}, {2, nil, 2}, {4, nil, 4}, {0, []api.Record{index(1)}, 1}, {0, []api.Record{index(3), index(2)}, 3}, {2, []api.Record{index(1)}, 2},
		{1, []api.Record{index(4)}, 4}, {1, []api.Record{index(5)}, 4}, {0, []api.Record{index(1<<32 - 1), index(2)}, 4},
		{1, []api.Record{long, short, other, asLog, pinned(3, api.Hash{})}, 1}, {0, []api.Record{{Kind: 0}, index(2), {Kind: 9, Data: "x"}}, 2},
	} {
		key := keyOf(0, 1)
		key.Next = x.key
		c, e := client.New(w.keys, 0, key, journaled(t, x.records...))
		if e != api.OK || c.View().Next != x.want {
			t.Errorf("case %d: error %d, next %d, not %d", i, e, c.View().Next, x.want)
		}
	}
}

// P24.1, P24.3: of what the journal tells as pins the last one counts; no smaller and no other log is taken.
func TestPinOfJournal(t *testing.T) {
	w := newWorld(t, 2)
	for range 3 {
		w.grows(1, stat)
	}
	two := w.log[2].Root
	cut := pinned(3, api.Hash{})
	cut.Data = cut.Data[:33]
	more := pinned(3, api.Hash{})
	more.Data += "\x00"
	asIndex := pinned(3, api.Hash{})
	asIndex.Kind = api.RecordIndex
	for _, x := range []struct {
		records []api.Record
		good    bool
	}{
		{nil, true}, {[]api.Record{pinned(2, two)}, true}, {[]api.Record{pinned(2, api.Hash{})}, false}, {[]api.Record{pinned(3, w.chain.Log().Root)}, true},
		{[]api.Record{pinned(4, api.Hash{}), pinned(2, two)}, true}, {[]api.Record{pinned(2, two), pinned(3, two)}, false}, {[]api.Record{pinned(4, api.Hash{})}, false},
		{[]api.Record{cut, more, asIndex}, true}, {[]api.Record{pinned(1, w.log[1].Root)}, true}, {[]api.Record{pinned(1, two)}, false}, {[]api.Record{pinned(0, two)}, true},
		{[]api.Record{pinned(65535, two)}, false}, {[]api.Record{pinned(2, two), {Kind: 7, Data: "x"}, index(1)}, true},
	} {
		c := w.client(0, journaled(t, x.records...))
		w.begins(c, 0, stat, 0)
		if x.good {
			w.proposes(c, w.entries(0, 0, 3))
		} else {
			w.refuses(c, w.put(w.entries(0, 0, 3)))
		}
	}
}

// P24.3: a pin is held against the log however the entries are cut.
func TestPinInPieces(t *testing.T) {
	w := newWorld(t, 2)
	for range 4 {
		w.grows(1, stat)
	}
	for _, good := range []bool{true, false} {
		root := w.log[3].Root
		if !good {
			root[0]++
		}
		c := w.client(0, journaled(t, pinned(3, root)))
		w.begins(c, 0, stat, 0)
		w.takes(c, w.entries(0, 0, 1), api.Msg{Kind: api.MsgFetch, From: 1}, api.PhaseLog)
		w.takes(c, w.entries(0, 1, 2), api.Msg{Kind: api.MsgFetch, From: 2}, api.PhaseLog)
		if good {
			w.takes(c, w.entries(0, 2, 3), api.Msg{Kind: api.MsgFetch, From: 3}, api.PhaseLog)
			w.proposes(c, w.entries(0, 3, 4))
		} else {
			w.refuses(c, w.put(w.entries(0, 2, 3)))
			if c.View().Log.Size != 2 {
				t.Errorf("%d entries", c.View().Log.Size)
			}
		}
	}
	c := w.client(0, journaled(t, pinned(3, w.log[3].Root)))
	w.begins(c, 0, stat, 0)
	w.refuses(c, w.put(api.Msg{Kind: api.MsgEntries, From: 2, Entries: w.log[:2]}))
	w.begins(c, 0, stat, 0)
	w.proposes(c, w.entries(0, 0, 4))
}

// P24.2: Begin tells a MsgFetch, and is refused unless the client is idle.
func TestBegin(t *testing.T) {
	w := newWorld(t, 2)
	c := w.client(2, newDisk(t, 64))
	w.begins(c, 2, stat, 0)
	busy := func() {
		t.Helper()
		before := c.View()
		if s, e := c.Begin(mkdir); s != "" || e != api.ErrClientBusy || !reflect.DeepEqual(c.View(), before) {
			t.Errorf("Begin in phase %d: error %d", before.Phase, e)
		}
	}
	busy()
	w.grows(0, mkdir)
	w.takes(c, w.entries(2, 0, 1), api.Msg{Kind: api.MsgWant, User: 2, Wants: w.tables()[:1]}, api.PhaseObjects)
	busy()
	_, objects, _ := state.Build(w.state)
	w.feeds(c, 2, objects)
	busy()
	w.commits(c, 2, 2)
	w.begins(c, 2, stat, 2)
}

// P24.3: a call that is committed: the messages, the records, the answer, the state.
func TestCommit(t *testing.T) {
	w := newWorld(t, 2)
	d := newDisk(t, 64)
	c := w.client(0, d)
	w.begins(c, 0, mkdir, 0)
	got := w.proposes(c, api.Msg{Kind: api.MsgEntries})
	if !slices.Equal(records(d), []api.Record{index(1)}) || c.View().Next != 1 || c.View().Log.Size != 0 {
		t.Errorf("%d records, next %d", len(records(d)), c.View().Next)
	}
	before, _ := state.Empty(w.keys.Members)
	if !same(c.State(), before) {
		t.Error("the state is not as of the load")
	}
	if _, ok := c.Answer(); ok {
		t.Error("an answer ahead of the commit")
	}
	after, answer, _ := ops.Do(w.keys.Members, before, 0, mkdir)
	tables, objects, _ := state.Build(after)
	e, _ := w.chain.Next(0, tables)
	want := w.sign(e)
	_, begun, _ := state.Build(before)
	var fresh []string
	for _, o := range objects {
		if !slices.Contains(begun, o) {
			fresh = append(fresh, o)
		}
	}
	if !reflect.DeepEqual(got.Entries[0], want) || !slices.Equal(got.Objects, fresh) || got.User != 0 || len(fresh) == 0 {
		t.Errorf("it proposes %v, %d objects", got.Entries[0], len(got.Objects))
	}
	w.commits(c, 0, 1)
	w.chain.Add(want)
	log := w.chain.Log()
	if !reflect.DeepEqual(c.View(), api.View{Log: log, Next: 1}) || !slices.Equal(records(d), []api.Record{index(1), pinned(1, log.Root)}) || d.Dirty() != 0 {
		t.Errorf("the client stands so: %v", c.View())
	}
	told, ok := c.Answer()
	if !ok || !sameAnswer(told, answer) || !same(c.State(), after) {
		t.Errorf("the answer is %v", told)
	}
	last, ok := c.Latest()
	if !ok || !reflect.DeepEqual(last, want) {
		t.Error("the last entry is another one")
	}
	w.begins(c, 0, stat, 1)
	if m := w.proposes(c, api.Msg{Kind: api.MsgEntries, From: 1}); len(m.Objects) != 0 || !same(c.State(), after) {
		t.Errorf("%d objects are handed over again", len(m.Objects))
	}
}

// P24.3: a call that the model refuses is committed too; its answer has a Code.
func TestCommitOfRefusedCall(t *testing.T) {
	w := newWorld(t, 2)
	c := w.client(1, newDisk(t, 64))
	answer, m := w.runs(c, mkdir)
	if !sameAnswer(answer, api.Answer{Code: api.ErrOpsPerm}) || len(m.Objects) != 0 || w.server.Log().Size != 1 || !slices.Equal(m.Entries[0].Tables, w.tables()) {
		t.Errorf("%v, %d objects", answer, len(m.Objects))
	}
}

// P24.3: what is not a message for the phase is over with the call.
func TestWrongReplies(t *testing.T) {
	w := newWorld(t, 3)
	objects := w.grows(0, mkdir)
	w.grows(1, stat)
	log, objs := w.entries(2, 0, 2), api.Msg{Kind: api.MsgObjects, User: 2, Objects: objects}
	done, busy := api.Msg{Kind: api.MsgDone, User: 2, From: 3}, api.Msg{Kind: api.MsgBusy, User: 2, From: 2}
	with := func(m api.Msg, change func(m *api.Msg)) api.Msg {
		change(&m)
		return m
	}
	to := []struct {
		phase int
		reach func() *client.Client
		wrong []api.Msg
	}{
		{api.PhaseLog, func() *client.Client {
			c := w.client(2, newDisk(t, 64))
			w.begins(c, 2, stat, 0)
			return c
		}, []api.Msg{
			objs, done, {Kind: api.MsgFetch, User: 2}, {Kind: api.MsgWant, User: 2}, {Kind: api.MsgAppend, User: 2}, with(log, func(m *api.Msg) { m.User = 1 }), with(busy, func(m *api.Msg) { m.User = 0 }),
			with(log, func(m *api.Msg) { m.From = 1 }), with(log, func(m *api.Msg) { m.From = 0 }), with(log, func(m *api.Msg) { m.Entries = nil }),
			with(log, func(m *api.Msg) { m.Entries = m.Entries[1:] }), with(log, func(m *api.Msg) { m.Entries = []api.Entry{m.Entries[1], m.Entries[0]} }),
			with(log, func(m *api.Msg) { m.Entries = []api.Entry{m.Entries[0], m.Entries[0]} }),
			with(log, func(m *api.Msg) { m.Entries = slices.Clone(m.Entries); m.Entries[1].Sign = m.Entries[0].Sign }),
			with(log, func(m *api.Msg) { m.Entries = slices.Clone(m.Entries); m.Entries[1].Root[0]++ }),
		}},
		{api.PhaseObjects, func() *client.Client {
			c := w.client(2, newDisk(t, 64))
			w.begins(c, 2, stat, 0)
			w.takes(c, log, api.Msg{Kind: api.MsgWant, User: 2, Wants: w.tables()[:1]}, api.PhaseObjects)
			return c
		}, []api.Msg{
			log, done, busy, {Kind: api.MsgWant, User: 2}, with(objs, func(m *api.Msg) { m.User = 0 }), with(objs, func(m *api.Msg) { m.Objects = nil }),
			with(objs, func(m *api.Msg) { m.Objects = []string{"", "other"} }), with(objs, func(m *api.Msg) { m.Objects = objects[:1] }),
		}},
		{api.PhaseAppend, func() *client.Client {
			c := w.client(2, newDisk(t, 64))
			w.begins(c, 2, stat, 0)
			w.takes(c, log, api.Msg{Kind: api.MsgWant, User: 2, Wants: w.tables()[:1]}, api.PhaseObjects)
			w.feeds(c, 2, objects)
			return c
		}, []api.Msg{
			log, objs, {Kind: api.MsgAppend, User: 2}, with(done, func(m *api.Msg) { m.User = 1 }), with(done, func(m *api.Msg) { m.From = 2 }),
			with(done, func(m *api.Msg) { m.From = 4 }), with(done, func(m *api.Msg) { m.From = 0 }), with(busy, func(m *api.Msg) { m.User = 1 }),
			{Kind: api.MsgEntries, User: 2, From: 3}, {Kind: api.MsgObjects, User: 2, From: 3}, {Kind: api.MsgFetch, User: 2, From: 3},
		}},
	}
	for _, x := range to {
		for _, s := range []string{"", "MG", w.put(log)[1:], strings.Repeat("x", 70000)} {
			w.refuses(x.reach(), s)
		}
		for i, m := range x.wrong {
			c := x.reach()
			if c.View().Phase != x.phase {
				t.Fatalf("phase %d, not %d", c.View().Phase, x.phase)
			}
			w.refuses(c, w.put(m))
			w.refuses(c, w.put(log))
			if t.Failed() {
				t.Fatalf("phase %d, message %d", x.phase, i)
			}
		}
	}
	c := to[0].reach()
	w.refuses(c, "")
	w.begins(c, 2, stat, 0)
	w.takes(c, log, api.Msg{Kind: api.MsgWant, User: 2, Wants: w.tables()[:1]}, api.PhaseObjects)
}

// P24.3: MsgBusy lets the client fetch again; what others appended meanwhile is taken, and the call done over it.
func TestBusy(t *testing.T) {
	w := newWorld(t, 2)
	d := newDisk(t, 64)
	c := w.client(0, d)
	busy := api.Msg{Kind: api.MsgBusy, From: 77}
	w.begins(c, 0, create, 0)
	w.takes(c, busy, api.Msg{Kind: api.MsgFetch}, api.PhaseLog)
	w.takes(c, busy, api.Msg{Kind: api.MsgFetch}, api.PhaseLog)
	first := w.proposes(c, api.Msg{Kind: api.MsgEntries})
	w.takes(c, busy, api.Msg{Kind: api.MsgFetch}, api.PhaseLog)
	objects := w.grows(0, mkdir)
	w.takes(c, w.entries(0, 0, 1), api.Msg{Kind: api.MsgWant, Wants: w.tables()[:1]}, api.PhaseObjects)
	second := w.feeds(c, 0, objects)
	if second.Entries[0].Seq != 2 || second.Entries[0].Sign == first.Entries[0].Sign || c.View().Next != 2 {
		t.Errorf("entry %d, next %d", second.Entries[0].Seq, c.View().Next)
	}
	if !slices.Equal(records(d), []api.Record{index(1), index(2)}) {
		t.Errorf("%d records", len(records(d)))
	}
	w.commits(c, 0, 2)
	w.grows(0, create)
	if !same(c.State(), w.state) {
		t.Error("the call was not done over the new log")
	}
}

// P24.3: entries that come in pieces are fetched piece by piece.
func TestFetchInPieces(t *testing.T) {
	w := newWorld(t, 2)
	for range 5 {
		w.grows(1, stat)
	}
	c := w.client(0, newDisk(t, 64))
	w.begins(c, 0, stat, 0)
	w.takes(c, w.entries(0, 0, 2), api.Msg{Kind: api.MsgFetch, From: 2}, api.PhaseLog)
	if c.View().Log.Size != 2 || !reflect.DeepEqual(c.View().Log.Last, w.log[1]) {
		t.Errorf("%d entries", c.View().Log.Size)
	}
	w.takes(c, w.entries(0, 2, 4), api.Msg{Kind: api.MsgFetch, From: 4}, api.PhaseLog)
	w.refuses(c, w.put(w.entries(0, 4, 4)))
	w.begins(c, 0, stat, 4)
	m := w.proposes(c, w.entries(0, 4, 5))
	if m.Entries[0].Seq != 6 {
		t.Errorf("entry %d", m.Entries[0].Seq)
	}
	w.commits(c, 0, 6)
	w.begins(c, 0, stat, 6)
	w.refuses(c, w.put(api.Msg{Kind: api.MsgEntries, From: 5}))
	w.begins(c, 0, stat, 6)
	w.proposes(c, api.Msg{Kind: api.MsgEntries, From: 6})
}

// hashOf is an object's hash.
func hashOf(data string) api.Hash {
	h, _ := tag.Sum(api.TagObject, data)
	return h
}

// P24.3: objects that are wanting are asked for, MaxWant at once; those that were wanted are known then.
func TestObjects(t *testing.T) {
	w := newWorld(t, 3)
	w.grows(0, create)
	var data strings.Builder
	for i := range 4096 {
		data.WriteByte(byte(i/64*7 + i%64))
	}
	w.grows(0, api.Call{Op: api.OpWrite, Path: "/f", Data: data.String()})
	objects := w.grows(1, stat)
	byHash := map[api.Hash]string{}
	for _, o := range objects {
		byHash[hashOf(o)] = o
	}
	c := w.client(2, newDisk(t, 64))
	w.begins(c, 2, stat, 0)
	var known []string
	wants := func() []api.Hash {
		_, want, e := state.Load(w.tables(), known)
		if e != api.ErrStateNone {
			return nil
		}
		return want[:min(len(want), 64)]
	}
	known = append(known, "T\x00", "D\x00")
	w.takes(c, w.entries(2, 0, 3), api.Msg{Kind: api.MsgWant, User: 2, Wants: wants()}, api.PhaseObjects)
	rounds := 0
	for {
		asked := wants()
		give := api.Msg{Kind: api.MsgObjects, User: 2, Objects: []string{"other", ""}}
		for _, h := range asked[:min(len(asked), 60)] {
			give.Objects = append(give.Objects, byHash[h])
			known = append(known, byHash[h])
		}
		rounds++
		next := wants()
		if next == nil {
			w.proposes(c, give)
			break
		}
		w.takes(c, give, api.Msg{Kind: api.MsgWant, User: 2, Wants: next}, api.PhaseObjects)
	}
	if rounds < 5 || !same(c.State(), w.state) {
		t.Errorf("%d rounds", rounds)
	}
	w.commits(c, 2, 4)
	w.begins(c, 2, stat, 4)
	if m := w.proposes(c, api.Msg{Kind: api.MsgEntries, User: 2, From: 4}); len(m.Objects) != 0 {
		t.Errorf("%d objects that are known are handed over", len(m.Objects))
	}
}

// P24.3: what was not wanted is not known, even if it will be.
func TestObjectsThatWereNotWanted(t *testing.T) {
	w := newWorld(t, 2)
	objects := w.grows(0, api.Call{Op: api.OpCreate, Path: "/f", As: 0})
	c := w.client(2, newDisk(t, 64))
	w.begins(c, 2, stat, 0)
	w.takes(c, w.entries(2, 0, 1), api.Msg{Kind: api.MsgWant, User: 2, Wants: w.tables()[:1]}, api.PhaseObjects)
	table := slices.IndexFunc(objects, func(o string) bool { return hashOf(o) == w.tables()[0] })
	_, want, _ := state.Load(w.tables(), []string{objects[table], "T\x00"})
	w.takes(c, api.Msg{Kind: api.MsgObjects, User: 2, Objects: objects}, api.Msg{Kind: api.MsgWant, User: 2, Wants: want}, api.PhaseObjects)
	w.proposes(c, api.Msg{Kind: api.MsgObjects, User: 2, Objects: objects})
}

// P24.3: tables that are none, and calls that are none, are over with the call.
func TestWrongLoads(t *testing.T) {
	w := newWorld(t, 2)
	c := w.client(0, newDisk(t, 64))
	w.begins(c, 0, wrong, 0)
	w.refuses(c, w.put(api.Msg{Kind: api.MsgEntries}))
	if c.View().Next != 0 {
		t.Errorf("next %d", c.View().Next)
	}
	w.grows(1, stat)
	w.begins(c, 0, wrong, 0)
	w.refuses(c, w.put(w.entries(0, 0, 1)))
	if c.View().Log.Size != 0 {
		t.Errorf("the chain has %d entries", c.View().Log.Size)
	}
	w.begins(c, 0, stat, 0)
	w.proposes(c, w.entries(0, 0, 1))
	c.Abort()
	tables := w.tables()
	tables[1] = hashOf("no table")
	w.adds(1, tables)
	w.begins(c, 0, stat, 1)
	w.takes(c, w.entries(0, 1, 2), api.Msg{Kind: api.MsgWant, Wants: tables[1:2]}, api.PhaseObjects)
	w.refuses(c, w.put(api.Msg{Kind: api.MsgObjects, Objects: []string{"no table"}}))
	if c.View().Log.Size != 2 {
		t.Errorf("%d entries", c.View().Log.Size)
	}
}

// P24.3: a log of MaxLog entries is taken, but no call can be done over it.
func TestFullLog(t *testing.T) {
	w := newWorldOf(t, 16, 2)
	for i := range api.MaxLog {
		w.adds(i%16, w.tables())
	}
	d := newDisk(t, 9)
	c := w.client(5, d)
	w.begins(c, 5, stat, 0)
	for at := 0; at < api.MaxLog-2; at += 10 {
		to := min(at+10, api.MaxLog-2)
		w.takes(c, w.entries(5, at, to), api.Msg{Kind: api.MsgFetch, User: 5, From: to}, api.PhaseLog)
	}
	m := w.entries(5, api.MaxLog-2, api.MaxLog)
	w.refuses(c, w.put(m))
	if c.View().Next != 0 || c.View().Log.Size != api.MaxLog-2 || len(records(d)) != 0 {
		t.Errorf("next %d, %d entries, %d records", c.View().Next, c.View().Log.Size, len(records(d)))
	}
}

// P24.3: a key that is spent halts the client.
func TestSpentKey(t *testing.T) {
	w := newWorld(t, 1)
	c := w.client(0, newDisk(t, 64))
	for i := range 4 {
		w.runs(c, stat)
		if c.View().Next != i+1 {
			t.Errorf("next %d", c.View().Next)
		}
	}
	before := c.View()
	w.begins(c, 0, stat, 4)
	s, e := c.Take(w.put(api.Msg{Kind: api.MsgEntries, From: 4}))
	before.Phase = api.PhaseHalted
	if s != "" || e != api.ErrClientSpent || !reflect.DeepEqual(c.View(), before) {
		t.Errorf("error %d, %v", e, c.View())
	}
	halted(t, c)
}

// halted looks that a client does nothing any more.
func halted(t *testing.T, c *client.Client) {
	t.Helper()
	before := c.View()
	if s, e := c.Begin(stat); s != "" || e != api.ErrClientHalted {
		t.Errorf("Begin: error %d", e)
	}
	for _, m := range []string{"", "MG"} {
		if s, e := c.Take(m); s != "" || e != api.ErrClientHalted {
			t.Errorf("Take: error %d", e)
		}
	}
	c.Abort()
	if before.Phase != api.PhaseHalted || !reflect.DeepEqual(c.View(), before) {
		t.Errorf("the client stands so: %v", c.View())
	}
}

// P24.3: a journal that is full halts the client, ahead of a signature or behind a commit.
func TestFullJournal(t *testing.T) {
	w := newWorld(t, 2)
	for sectors := 1; sectors <= 7; sectors++ {
		d := newDisk(t, sectors)
		c := w.client(0, d)
		size, next := 0, 0
		for free := sectors; ; free -= 3 {
			w.begins(c, 0, stat, size)
			s, e := c.Take(w.put(api.Msg{Kind: api.MsgEntries, From: size}))
			if free < 1 {
				if s != "" || e != api.ErrClientSpent || c.View().Next != next {
					t.Errorf("%d sectors: error %d, next %d", sectors, e, c.View().Next)
				}
				break
			}
			next++
			if e != api.OK || c.View().Next != next {
				t.Fatalf("%d sectors: error %d, next %d", sectors, e, c.View().Next)
			}
			s, e = c.Take(w.put(api.Msg{Kind: api.MsgDone, From: size + 1}))
			if free < 3 {
				if s != "" || e != api.ErrClientSpent {
					t.Errorf("%d sectors: error %d", sectors, e)
				}
				break
			}
			if size++; e != api.OK || c.View().Log.Size != size {
				t.Fatalf("%d sectors: error %d", sectors, e)
			}
		}
		if _, ok := c.Answer(); ok {
			t.Errorf("%d sectors: there is an answer", sectors)
		}
		halted(t, c)
		if again := w.client(0, d); again.View().Next != next {
			t.Errorf("%d sectors: next %d behind a crash", sectors, again.View().Next)
		}
	}
}

// P24.4: Answer, State, Latest along several calls.
func TestAnswers(t *testing.T) {
	w := newWorld(t, 2)
	c := w.client(0, newDisk(t, 64))
	files, _ := state.Empty(w.keys.Members)
	for _, x := range []api.Call{mkdir, create, mkdir, {Op: api.OpWrite, Path: "/f", Data: "hello"}, {Op: api.OpRead, Path: "/f", N: 9}, {Op: api.OpReaddir, Path: "/"}} {
		then, want, _ := ops.Do(w.keys.Members, files, 0, x)
		if got, _ := w.runs(c, x); !sameAnswer(got, want) || !same(c.State(), then) {
			t.Errorf("%v: %v, not %v", x, got, want)
		}
		files = then
		last, ok := c.Latest()
		if es := w.server.Entries(); !ok || !reflect.DeepEqual(last, es[len(es)-1]) {
			t.Error("the last entry is another one")
		}
	}
	w.begins(c, 0, stat, 6)
	if _, ok := c.Answer(); ok {
		t.Error("the last call's answer is there in the next one")
	}
	if !same(c.State(), files) {
		t.Error("the state is another one in the next call")
	}
}

// P24.4: Abort ends a call, whatever the phase; the next one begins anew.
func TestAbort(t *testing.T) {
	w := newWorld(t, 2)
	objects := w.grows(1, api.Call{Op: api.OpStat, Path: "/"})
	objects = append(objects, w.grows(0, mkdir)...)
	for phase := api.PhaseLog; phase <= api.PhaseAppend; phase++ {
		c := w.client(2, newDisk(t, 64))
		w.begins(c, 2, stat, 0)
		if phase >= api.PhaseObjects {
			w.takes(c, w.entries(2, 0, 2), api.Msg{Kind: api.MsgWant, User: 2, Wants: w.tables()[:1]}, api.PhaseObjects)
		}
		if phase == api.PhaseAppend {
			w.feeds(c, 2, objects)
		}
		want := c.View()
		want.Phase = api.PhaseIdle
		c.Abort()
		if _, ok := c.Answer(); ok || !reflect.DeepEqual(c.View(), want) {
			t.Errorf("phase %d: %v", phase, c.View())
		}
		if s, e := c.Take(w.put(api.Msg{Kind: api.MsgDone, User: 2, From: 3})); s != "" || e != api.ErrClientReply {
			t.Errorf("phase %d: Take: error %d", phase, e)
		}
		w.begins(c, 2, stat, want.Log.Size)
	}
	c := w.client(0, newDisk(t, 64))
	c.Abort()
	if c.View().Phase != api.PhaseIdle {
		t.Errorf("phase %d", c.View().Phase)
	}
}

// P24.4: Hear of entries that stand in the client's log, or could.
func TestHear(t *testing.T) {
	w := newWorld(t, 2)
	for range 3 {
		w.grows(1, stat)
	}
	hears := func(c *client.Client, e api.Entry) {
		t.Helper()
		before := c.View()
		if x, fork, wrong := c.Hear(e); wrong != api.OK || fork || !reflect.DeepEqual(x, api.Evidence{}) || !reflect.DeepEqual(c.View(), before) {
			t.Errorf("Hear: error %d, %v", wrong, fork)
		}
	}
	empty := w.client(0, newDisk(t, 64))
	hears(empty, w.log[2])
	c := w.client(0, newDisk(t, 64))
	w.begins(c, 0, stat, 0)
	w.takes(c, w.entries(0, 0, 2), api.Msg{Kind: api.MsgFetch, From: 2}, api.PhaseLog)
	for _, e := range w.log {
		hears(c, e)
	}
	bad := w.log[0]
	bad.Root[0]++
	unsigned := w.log[2]
	unsigned.Sign = ""
	long := w.log[0]
	long.Sign = strings.Repeat("s", 8193)
	other := w.log[0]
	other.User = 0
	none := w.log[0]
	none.User = 3
	before := c.View()
	for i, e := range []api.Entry{{}, bad, unsigned, long, other, none} {
		if x, fork, wrong := c.Hear(e); wrong != api.ErrClientForm || fork || !reflect.DeepEqual(x, api.Evidence{}) || !reflect.DeepEqual(c.View(), before) {
			t.Errorf("entry %d: error %d, %v", i, wrong, fork)
		}
	}
}

// P24.4: Hear of an entry of another log halts the client and tells the evidence.
func TestFork(t *testing.T) {
	left, right := newWorld(t, 2), newWorld(t, 2)
	left.grows(1, stat)
	right.adds(1, right.tables())
	right.grows(2, stat)
	left.grows(0, stat)
	left.grows(1, mkdir)
	right.own[1] = left.own[1]
	right.grows(1, mkdir)
	for i, x := range []struct {
		heard, own int
		phase      int
	}{{1, 1, api.PhaseIdle}, {1, 1, api.PhaseLog}, {1, 1, api.PhaseAppend}} {
		c := left.client(2, newDisk(t, 64))
		left.begins(c, 2, stat, 0)
		left.proposes(c, left.entries(2, 0, 3))
		switch x.phase {
		case api.PhaseIdle:
			c.Abort()
		case api.PhaseLog:
			left.takes(c, api.Msg{Kind: api.MsgBusy, User: 2}, api.Msg{Kind: api.MsgFetch, User: 2, From: 3}, api.PhaseLog)
		}
		want := c.View()
		want.Phase, want.Fork = api.PhaseHalted, true
		got, fork, wrong := c.Hear(right.log[x.heard])
		if wrong != api.OK || !fork || !reflect.DeepEqual(got, api.Evidence{A: left.log[x.own], B: right.log[x.heard]}) || !reflect.DeepEqual(c.View(), want) {
			t.Errorf("case %d: error %d, %v", i, wrong, fork)
		}
		halted(t, c)
		again, fork, wrong := c.Hear(right.log[x.heard])
		if wrong != api.OK || !fork || !reflect.DeepEqual(again, got) {
			t.Errorf("case %d, again: error %d, %v", i, wrong, fork)
		}
	}
	c := left.client(2, newDisk(t, 64))
	left.begins(c, 2, stat, 0)
	left.takes(c, left.entries(2, 0, 2), api.Msg{Kind: api.MsgFetch, User: 2, From: 2}, api.PhaseLog)
	if x, fork, wrong := c.Hear(right.log[2]); wrong != api.OK || !fork || !reflect.DeepEqual(x, api.Evidence{A: left.log[1], B: right.log[2]}) {
		t.Errorf("of a place behind its last entry: error %d, %v", wrong, fork)
	}
}

// P24.5: behind crashes no index signs twice, and no committed log is forgotten.
func TestCrashes(t *testing.T) {
	w := newWorld(t, 3)
	d := newDisk(t, 256)
	c := w.client(0, d)
	signed := map[string]api.Entry{}
	committed := 0
	propose := func(s string) {
		t.Helper()
		for s != "" {
			next, e := c.Take(w.server.Take(s))
			if e != api.OK {
				t.Fatalf("error %d", e)
			}
			if c.View().Phase == api.PhaseAppend {
				latest := w.last(next)
				place := latest.Sign[4:8] + latest.Sign[4+(4+2180+4+3*32)+56:][:4]
				if old, ok := signed[place]; ok && !reflect.DeepEqual(old, latest) {
					t.Fatalf("an index signs twice")
				}
				signed[place] = latest
				return
			}
			s = next
		}
	}
	for i := range 40 {
		s, e := c.Begin(stat)
		if e != api.OK {
			t.Fatalf("error %d", e)
		}
		propose(s)
		if i%3 == 0 {
			last := w.lastProposal(signed, w.server.Log().Size+1)
			if _, e := c.Take(w.server.Take(w.put(api.Msg{Kind: api.MsgAppend, Entries: []api.Entry{last}}))); e != api.OK {
				t.Fatalf("error %d", e)
			}
			committed = w.server.Log().Size
		}
		if i%2 == 0 {
			d.Crash(i)
			c = w.client(0, d)
			if c.View().Next < len(signed) {
				t.Fatalf("next %d of %d signed", c.View().Next, len(signed))
			}
			w.begins(c, 0, stat, 0)
			w.refuses(c, w.put(api.Msg{Kind: api.MsgEntries, From: committed - 1}))
		} else {
			c.Abort()
		}
		w.server.Tick(100)
	}
	if len(signed) != 40 {
		t.Errorf("%d indices", len(signed))
	}
}

// last tells the entry of a MsgAppend.
func (w *world) last(s string) api.Entry {
	w.t.Helper()
	if len(s) == 0 {
		w.t.Fatal("no message")
	}
	m := mustGet(w.t, s)
	return m.Entries[0]
}

// lastProposal tells a proposal for a place of the log, the one of the greatest index.
func (w *world) lastProposal(signed map[string]api.Entry, seq int) api.Entry {
	best := ""
	for place, e := range signed {
		if e.Seq == seq && place > best {
			best = place
		}
	}
	return signed[best]
}

// R4: what a client tells is not what it holds.
func TestAnswersAreApart(t *testing.T) {
	w := newWorld(t, 2)
	c := w.client(0, newDisk(t, 64))
	w.runs(c, api.Call{Op: api.OpCreate, Path: "/f", As: 0})
	w.runs(c, api.Call{Op: api.OpReaddir, Path: "/"})
	a, _ := c.Answer()
	a.Names[0] = "changed"
	b, _ := c.Answer()
	v, l, s := c.View(), must(c.Latest()), c.State()
	v.Log.Last.Vec[0], l.Vec[0], l.Tables[0] = 99, 99, api.Hash{99}
	s.Tables[0][0].Ents[0].Name = "changed"
	w.keys.Publics[0] = ""
	if b.Names[0] != "f" || c.View().Log.Last.Vec[0] != 2 || must(c.Latest()).Vec[0] != 2 || c.State().Tables[0][0].Ents[0].Name != "f" {
		t.Error("lists are shared")
	}
	w.runs(c, stat)
}

// must tells an entry that must be there.
func must(e api.Entry, ok bool) api.Entry {
	if !ok {
		panic("there is none")
	}
	return e
}

// R3: methods of a nil client.
func TestNilClient(t *testing.T) {
	var c *client.Client
	if s, e := c.Begin(stat); s != "" || e != api.ErrNil {
		t.Errorf("Begin: error %d", e)
	}
	if s, e := c.Take("a"); s != "" || e != api.ErrNil {
		t.Errorf("Take: error %d", e)
	}
	if x, fork, e := c.Hear(api.Entry{}); fork || e != api.ErrNil || !reflect.DeepEqual(x, api.Evidence{}) {
		t.Errorf("Hear: error %d", e)
	}
	_, answered := c.Answer()
	_, latest := c.Latest()
	if answered || latest || !reflect.DeepEqual(c.View(), api.View{}) || c.State().Tables != nil {
		t.Error("a nil client tells something")
	}
	c.Abort()
}

// A key's public is held against the user's own.
func TestKeyIsTheUsers(t *testing.T) {
	w := newWorld(t, 1)
	later := keyOf(1, 1)
	later.Next = 3
	if c, e := client.New(w.keys, 1, later, newDisk(t, 9)); e != api.OK || c.View().Next != 3 || hss.Left(later) != 1 {
		t.Errorf("error %d", e)
	}
}
