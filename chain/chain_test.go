package chain_test

import (
	"fmt"
	"math"
	"reflect"
	"slices"
	"strings"
	"testing"

	"almonry/api"
	"almonry/chain"
	"almonry/entry"
	"almonry/hss"
	"almonry/mlog"
	"almonry/state"
)

// signers makes keys for members.
func signers(t *testing.T, m api.Members, height int) (api.Keys, []api.HssKey) {
	k := api.Keys{Members: m}
	var own []api.HssKey
	for user := range m.Users {
		key := api.HssKey{Ots: api.OtsW4, Height: height, Id: fmt.Sprintf("id of user %05d", user), Seed: fmt.Sprintf("the seed of the key of user %04d", user)}
		public, e := hss.Public(key)
		if e != api.OK {
			t.Fatalf("error %d", e)
		}
		k.Publics = append(k.Publics, public)
		own = append(own, key)
	}
	return k, own
}

// group tells the members of most tests here: three users, group 3 of users 0 and 1, group 4 of user 2.
func group() api.Members {
	return api.Members{Users: 3, Groups: [][]int{{0, 1}, {2}}}
}

// newChain gives a chain that must be.
func newChain(t *testing.T, k api.Keys) *chain.Chain {
	c, e := chain.New(k)
	if e != api.OK || c == nil {
		t.Fatalf("New: error %d", e)
	}
	return c
}

// begin tells the tables of the begin.
func begin(t *testing.T, m api.Members) []api.Hash {
	s, e := state.Empty(m)
	if e != api.OK {
		t.Fatalf("error %d", e)
	}
	tables, _, e := state.Build(s)
	if e != api.OK {
		t.Fatalf("error %d", e)
	}
	return tables
}

// sign signs what must be signed.
func sign(t *testing.T, e api.Entry, own []api.HssKey) api.Entry {
	t.Helper()
	signed, then, errno := entry.Sign(e, own[e.User])
	if errno != api.OK {
		t.Fatalf("Sign: error %d", errno)
	}
	own[e.User] = then
	return signed
}

// P20.1: which keys may be.
func TestKeysMay(t *testing.T) {
	public := strings.Repeat("p", 60)
	many := slices.Repeat([]string{public}, 16)
	for i, k := range []api.Keys{
		{Members: api.Members{Users: 1}, Publics: many[:1]}, {Members: api.Members{Users: 16}, Publics: many},
		{Members: group(), Publics: many[:3]},
	} {
		if !chain.KeysMay(k) {
			t.Errorf("keys %d may not be", i)
		}
		if l, e := chain.Start(k); e != api.OK || !reflect.DeepEqual(l, api.Log{Root: mlog.Root(nil)}) {
			t.Errorf("keys %d: Start: error %d, %v", i, e, l)
		}
		if l := newChain(t, k).Log(); !reflect.DeepEqual(l, api.Log{Root: mlog.Root(nil)}) {
			t.Errorf("keys %d: Log of a new chain: %v", i, l)
		}
	}
	for i, k := range []api.Keys{
		{}, {Members: group()}, {Members: group(), Publics: many[:2]}, {Members: group(), Publics: many[:4]},
		{Members: group(), Publics: []string{public, public, public[1:]}}, {Members: group(), Publics: []string{public + "p", public, public}},
		{Members: group(), Publics: []string{public, "", public}}, {Members: api.Members{Users: 17}, Publics: append(many, public)},
		{Members: api.Members{Users: 1, Groups: [][]int{{1}}}, Publics: many[:1]}, {Publics: many[:1]},
	} {
		if chain.KeysMay(k) {
			t.Errorf("keys %d may be", i)
		}
		if l, e := chain.Start(k); e != api.ErrChainForm || !reflect.DeepEqual(l, api.Log{}) {
			t.Errorf("keys %d: Start: error %d", i, e)
		}
		if c, e := chain.New(k); e != api.ErrChainForm || c != nil {
			t.Errorf("keys %d: New: error %d", i, e)
		}
	}
}

// P20.2, P20.3: a log that goes on, entry by entry.
func TestLog(t *testing.T) {
	k, own := signers(t, group(), 2)
	c := newChain(t, k)
	tables := begin(t, k.Members)
	vec := []int{0, 0, 0}
	var bytes []string
	for i, user := range []int{0, 2, 1, 1, 0, 2} {
		tables = slices.Clone(tables)
		tables[user] = api.Hash{byte(i + 1)}
		e, errno := c.Next(user, tables)
		vec[user]++
		want := api.Entry{User: user, Seq: i + 1, Vec: slices.Clone(vec), Root: mlog.Root(bytes), Tables: tables}
		if errno != api.OK || !reflect.DeepEqual(e, want) {
			t.Fatalf("entry %d: Next: error %d, %v", i, errno, e)
		}
		e = sign(t, e, own)
		if errno := c.Check(e); errno != api.OK || c.Log().Size != i {
			t.Fatalf("entry %d: Check: error %d", i, errno)
		}
		if errno := c.Add(e); errno != api.OK {
			t.Fatalf("entry %d: Add: error %d", i, errno)
		}
		put, _ := entry.Put(e)
		bytes = append(bytes, put)
		if l := c.Log(); !reflect.DeepEqual(l, api.Log{Size: i + 1, Root: mlog.Root(bytes), Last: e}) {
			t.Errorf("entry %d: Log: %v", i, l)
		}
	}
}

// second gives a chain with one entry, of user 0, and the next one, of user 1, without its signature.
func second(t *testing.T, k api.Keys, own []api.HssKey) (*chain.Chain, api.Entry) {
	c := newChain(t, k)
	tables := begin(t, k.Members)
	tables[0], tables[3] = api.Hash{1}, api.Hash{2}
	e, _ := c.Next(0, tables)
	if errno := c.Add(sign(t, e, own)); errno != api.OK {
		t.Fatalf("error %d", errno)
	}
	next, errno := c.Next(1, tables)
	if errno != api.OK {
		t.Fatalf("error %d", errno)
	}
	return c, next
}

// P20.2: what Check and Add refuse; each wrong thing alone, well signed, then with all wrong things behind it.
func TestWrongEntries(t *testing.T) {
	k, own := signers(t, group(), 3)
	c, next := second(t, k, own)
	before := c.Log()
	for _, x := range []struct {
		what   string
		want   api.Errno
		change func(e *api.Entry)
	}{
		{"User below 0", api.ErrChainForm, func(e *api.Entry) { e.User = -1 }},
		{"User above all", api.ErrChainForm, func(e *api.Entry) { e.User = 16 }},
		{"Seq of 0", api.ErrChainForm, func(e *api.Entry) { e.Seq = 0 }},
		{"a number too few", api.ErrChainForm, func(e *api.Entry) { e.Vec = e.Vec[:2] }},
		{"a number too many", api.ErrChainForm, func(e *api.Entry) { e.Vec = append(e.Vec, 0) }},
		{"a number too great", api.ErrChainForm, func(e *api.Entry) { e.Vec[2] = 257 }},
		{"a table too few", api.ErrChainForm, func(e *api.Entry) { e.Tables = e.Tables[:4] }},
		{"a table too many", api.ErrChainForm, func(e *api.Entry) { e.Tables = append(e.Tables, api.Hash{}) }},
		{"Seq too small", api.ErrChainSeq, func(e *api.Entry) { e.Seq = 1 }},
		{"Seq too great", api.ErrChainSeq, func(e *api.Entry) { e.Seq = 3 }},
		{"User that is none", api.ErrChainUser, func(e *api.Entry) { e.User = 3 }},
		{"the greatest User", api.ErrChainUser, func(e *api.Entry) { e.User = 15 }},
		{"Vec as it was", api.ErrChainVec, func(e *api.Entry) { e.Vec[1]-- }},
		{"Vec too great", api.ErrChainVec, func(e *api.Entry) { e.Vec[1]++ }},
		{"another one's Vec", api.ErrChainVec, func(e *api.Entry) { e.Vec[2]++ }},
		{"another one's Vec too small", api.ErrChainVec, func(e *api.Entry) { e.Vec[0]-- }},
		{"another User", api.ErrChainVec, func(e *api.Entry) { e.User = 2 }},
		{"another Root", api.ErrChainRoot, func(e *api.Entry) { e.Root[0]++ }},
		{"the begin's Root", api.ErrChainRoot, func(e *api.Entry) { e.Root = mlog.Root(nil) }},
		{"another user's table", api.ErrChainTables, func(e *api.Entry) { e.Tables[0] = api.Hash{9} }},
		{"a table as in the begin", api.ErrChainTables, func(e *api.Entry) { e.Tables[0] = begin(t, k.Members)[0] }},
		{"the third user's table", api.ErrChainTables, func(e *api.Entry) { e.Tables[2][31]++ }},
		{"another group's table", api.ErrChainTables, func(e *api.Entry) { e.Tables[4][0]++ }},
	} {
		e := next
		e.Vec, e.Tables = slices.Clone(e.Vec), slices.Clone(e.Tables)
		x.change(&e)
		unsigned := e
		if e.User >= 0 && e.User < 3 {
			if signed, _, errno := entry.Sign(e, own[e.User]); errno == api.OK {
				e = signed
			}
		}
		for _, wrong := range []api.Entry{e, unsigned} {
			if got := c.Check(wrong); got != x.want {
				t.Errorf("%s: Check: error %d, not %d", x.what, got, x.want)
			}
			if got := c.Add(wrong); got != x.want {
				t.Errorf("%s: Add: error %d, not %d", x.what, got, x.want)
			}
		}
	}
	if !reflect.DeepEqual(c.Log(), before) {
		t.Error("what was refused has changed the log")
	}
	good := next
	good.Tables = slices.Clone(good.Tables)
	good.Tables[1], good.Tables[3] = api.Hash{7}, api.Hash{8}
	if errno := c.Add(sign(t, good, own)); errno != api.OK {
		t.Errorf("tables of one's own: error %d", errno)
	}
}

// P20.2: of the first entry the tables are held against those of the begin, the vector against zeros.
func TestFirstEntry(t *testing.T) {
	k, own := signers(t, group(), 2)
	c := newChain(t, k)
	for principal := range 5 {
		e, _ := c.Next(1, begin(t, k.Members))
		e.Tables[principal][0]++
		want := api.ErrChainTables
		if principal == 1 || principal == 3 {
			want = api.OK
		}
		if got := c.Check(sign(t, e, own)); got != want {
			t.Errorf("the table of %d: error %d, not %d", principal, got, want)
		}
	}
	e, _ := c.Next(1, begin(t, k.Members))
	for i, vec := range [][]int{{0, 0, 0}, {1, 0, 0}, {0, 2, 0}, {1, 1, 0}} {
		e.Vec = vec
		if got := c.Check(sign(t, e, own)); got != api.ErrChainVec {
			t.Errorf("vector %d: error %d", i, got)
		}
	}
	e.Vec, e.Root = []int{0, 1, 0}, api.Hash{}
	if got := c.Check(sign(t, e, own)); got != api.ErrChainRoot {
		t.Errorf("no root: error %d", got)
	}
}

// P20.2: signatures that are none.
func TestWrongSigns(t *testing.T) {
	k, own := signers(t, group(), 2)
	c, next := second(t, k, own)
	signed := sign(t, next, own)
	for i, other := range []string{"", "a", signed.Sign[1:], signed.Sign[:len(signed.Sign)-1] + "\x00", c.Log().Last.Sign} {
		e := signed
		e.Sign = other
		if errno := c.Add(e); errno != api.ErrChainSign {
			t.Errorf("signature %d: error %d", i, errno)
		}
	}
	long := signed
	long.Sign = strings.Repeat("s", 8193)
	if errno := c.Add(long); errno != api.ErrChainForm {
		t.Errorf("a signature too long: error %d", errno)
	}
	mine := own[1]
	own[1] = own[0]
	if errno := c.Add(sign(t, next, own)); errno != api.ErrChainSign {
		t.Errorf("another user's signature: error %d", errno)
	}
	own[1] = mine
	if errno := c.Add(signed); errno != api.OK {
		t.Errorf("the right one: error %d", errno)
	}
	if errno := c.Add(signed); errno != api.ErrChainSeq {
		t.Errorf("the same one again: error %d", errno)
	}
}

// P20.2: each rule comes ahead of those behind it.
func TestRowOfErrors(t *testing.T) {
	k, own := signers(t, group(), 2)
	c, next := second(t, k, own)
	next.Vec, next.Tables = slices.Clone(next.Vec), slices.Clone(next.Tables)
	check := func(want api.Errno) {
		t.Helper()
		if got := c.Check(next); got != want {
			t.Errorf("error %d, not %d", got, want)
		}
	}
	check(api.ErrChainSign)
	next.Tables[2][0]++
	check(api.ErrChainTables)
	next.Root[0]++
	check(api.ErrChainRoot)
	next.Vec[2]++
	check(api.ErrChainVec)
	next.User = 5
	check(api.ErrChainUser)
	next.Seq = 9
	check(api.ErrChainSeq)
	next.Tables = append(next.Tables, api.Hash{})
	check(api.ErrChainForm)
}

// P20.3: what Next refuses.
func TestWrongNexts(t *testing.T) {
	k, _ := signers(t, group(), 1)
	c := newChain(t, k)
	for _, user := range []int{-1, 3, 4, 16, math.MinInt, math.MaxInt} {
		if e, errno := c.Next(user, make([]api.Hash, 5)); errno != api.ErrChainForm || !reflect.DeepEqual(e, api.Entry{}) {
			t.Errorf("user %d: error %d", user, errno)
		}
	}
	for _, n := range []int{0, 3, 4, 6, 24} {
		if e, errno := c.Next(0, make([]api.Hash, n)); errno != api.ErrChainForm || !reflect.DeepEqual(e, api.Entry{}) {
			t.Errorf("%d tables: error %d", n, errno)
		}
	}
	if e, errno := c.Next(2, make([]api.Hash, 5)); errno != api.OK || e.Seq != 1 {
		t.Errorf("tables that Check would not take: error %d", errno)
	}
}

// P20.2, P20.3: MaxLog entries, and no more; all users in turn.
func TestFullLog(t *testing.T) {
	k, own := signers(t, api.Members{Users: 16}, 2)
	c := newChain(t, k)
	tables := begin(t, k.Members)
	var last api.Entry
	for i := range api.MaxLog {
		e, errno := c.Next(i%16, tables)
		if errno != api.OK {
			t.Fatalf("entry %d: Next: error %d", i, errno)
		}
		last = sign(t, e, own)
		if errno := c.Add(last); errno != api.OK {
			t.Fatalf("entry %d: Add: error %d", i, errno)
		}
	}
	if l := c.Log(); l.Size != api.MaxLog || !reflect.DeepEqual(l.Last, last) {
		t.Errorf("%d entries", l.Size)
	}
	if e, errno := c.Next(0, tables); errno != api.ErrChainForm || !reflect.DeepEqual(e, api.Entry{}) {
		t.Errorf("Next: error %d", errno)
	}
	if errno := c.Check(last); errno != api.ErrChainForm {
		t.Errorf("Check: error %d", errno)
	}
	last.Seq = 257
	if errno := c.Add(last); errno != api.ErrChainForm {
		t.Errorf("Add: error %d", errno)
	}
}

// R4: what is handed in is not kept, and what is told is not what the chain holds.
func TestListsAreApart(t *testing.T) {
	k, own := signers(t, group(), 2)
	c := newChain(t, k)
	tables := begin(t, k.Members)
	e, _ := c.Next(0, tables)
	e.Tables[0][0]++
	if again, _ := c.Next(0, tables); again.Tables[0] == e.Tables[0] {
		t.Error("Next tells the list that was handed in")
	}
	e = sign(t, e, own)
	c.Add(e)
	want := c.Log()
	e.Vec[0], e.Tables[0] = 99, api.Hash{99}
	told := c.Log()
	told.Last.Vec[1], told.Last.Tables[1] = 99, api.Hash{99}
	k.Publics[0], k.Members.Groups[0][0] = "", 1
	if !reflect.DeepEqual(c.Log(), want) {
		t.Error("the chain's entry is shared")
	}
	next, _ := c.Next(0, want.Last.Tables)
	next.Tables[3] = api.Hash{5}
	if errno := c.Add(sign(t, next, own)); errno != api.OK {
		t.Errorf("the keys are shared: error %d", errno)
	}
}

// R3: methods of a nil chain.
func TestNilChain(t *testing.T) {
	var c *chain.Chain
	if c.Check(api.Entry{}) != api.ErrNil || c.Add(api.Entry{}) != api.ErrNil || !reflect.DeepEqual(c.Log(), api.Log{}) {
		t.Error("a nil chain")
	}
	if e, errno := c.Next(0, nil); errno != api.ErrNil || !reflect.DeepEqual(e, api.Entry{}) {
		t.Errorf("Next: error %d", errno)
	}
}
