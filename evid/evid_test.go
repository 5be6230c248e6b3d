package evid_test

import (
	"fmt"
	"reflect"
	"slices"
	"strings"
	"testing"

	"almonry/api"
	"almonry/chain"
	"almonry/entry"
	"almonry/evid"
	"almonry/hss"
	"almonry/state"
)

// make3 gives an entry that may be, its Tables those of three users.
func make3(user int, seq int, vec ...int) api.Entry {
	return api.Entry{User: user, Seq: seq, Vec: vec, Root: api.Hash{1}, Tables: []api.Hash{{2}, {3}, {4}}, Sign: "s"}
}

// changed is an entry with one change.
func changed(e api.Entry, change func(e *api.Entry)) api.Entry {
	e.Vec, e.Tables = slices.Clone(e.Vec), slices.Clone(e.Tables)
	change(&e)
	return e
}

// P21.1: which entries are contrary.
func TestContrary(t *testing.T) {
	a := make3(0, 5, 2, 2, 1)
	for _, c := range []struct {
		what string
		b    api.Entry
		want bool
	}{
		{"itself", a, false},
		{"one before it", make3(0, 4, 1, 2, 1), false},
		{"one behind it", make3(2, 6, 2, 2, 2), false},
		{"one that is apart", make3(2, 5, 1, 2, 2), true},
		{"one that is apart, ahead", make3(2, 4, 1, 1, 2), true},
		{"one that is apart, behind", make3(2, 9, 1, 6, 2), true},
		{"another one of its Seq, by Root", changed(a, func(e *api.Entry) { e.Root[0]++ }), true},
		{"another one of its Seq, by Tables", changed(a, func(e *api.Entry) { e.Tables[2][0]++ }), true},
		{"another one of its Seq, by User", changed(a, func(e *api.Entry) { e.User = 1 }), true},
		{"another one of its Seq, by Vec, below", make3(0, 5, 1, 2, 1), true},
		{"another one of its Seq, fewer Tables", changed(a, func(e *api.Entry) { e.Tables = e.Tables[:1] }), true},
		{"another signature alone", changed(a, func(e *api.Entry) { e.Sign = "other" }), false},
		{"another Root and Seq", changed(a, func(e *api.Entry) { e.Root[0]++; e.Seq++ }), false},
		{"fewer numbers", make3(0, 5, 2, 2), false},
		{"more numbers", make3(0, 5, 2, 2, 1, 0), false},
		{"a body that may not be, apart", changed(make3(2, 5, 1, 2, 2), func(e *api.Entry) { e.User = 16 }), false},
		{"a body that may not be, of its Seq", changed(a, func(e *api.Entry) { e.Tables = nil }), false},
		{"a number too great", make3(0, 5, 2, 2, 257), false},
		{"a signature too long", changed(make3(2, 5, 1, 2, 2), func(e *api.Entry) { e.Sign = strings.Repeat("s", 9000) }), true},
	} {
		if evid.Contrary(a, c.b) != c.want || evid.Contrary(c.b, a) != c.want {
			t.Errorf("%s: %v", c.what, !c.want)
		}
	}
	if evid.Contrary(api.Entry{}, api.Entry{}) || evid.Contrary(api.Entry{}, a) {
		t.Error("entries that may not be")
	}
}

// P21.1: the bytes of evidence, and back.
func TestBytes(t *testing.T) {
	a, b := make3(0, 5, 2, 2, 1), changed(make3(1, 9, 0, 256), func(e *api.Entry) { e.Sign = strings.Repeat("s", 8192) })
	for i, x := range []api.Evidence{{A: a, B: b}, {A: b, B: a}, {A: a, B: a}, {A: b, B: b}} {
		want := "EV"
		for _, e := range []api.Entry{x.A, x.B} {
			bytes, _ := entry.Put(e)
			want += string([]byte{byte(len(bytes) >> 8), byte(len(bytes))}) + bytes
		}
		if got, errno := evid.Put(x); errno != api.OK || got != want {
			t.Errorf("evidence %d: Put: error %d", i, errno)
		}
		if got, errno := evid.Get(want); errno != api.OK || !reflect.DeepEqual(got, x) {
			t.Errorf("evidence %d: Get: error %d", i, errno)
		}
	}
	long := changed(a, func(e *api.Entry) { e.Sign = strings.Repeat("s", 8193) })
	for i, x := range []api.Evidence{{}, {A: a}, {B: a}, {A: a, B: long}, {A: long, B: a}, {A: a, B: make3(16, 1, 0)}} {
		if got, errno := evid.Put(x); errno != api.ErrEvidForm || got != "" {
			t.Errorf("wrong evidence %d: Put: error %d", i, errno)
		}
	}
}

// P21.1: bytes that are not just evidence's.
func TestWrongBytes(t *testing.T) {
	s, _ := evid.Put(api.Evidence{A: make3(0, 5, 2, 2, 1), B: make3(1, 9, 0, 256)})
	one, _ := entry.Put(make3(0, 5, 2, 2, 1))
	text := string([]byte{0, byte(len(one))}) + one
	others := []string{s + "\x00", "EW" + s[2:], "ev" + s[2:], " " + s, "EV" + text, "EV" + text + "\x00\x00", "EV" + text + text + text, "EV" + text + "\x00\x05AE123"}
	for n := range len(s) {
		others = append(others, s[:n])
	}
	for i, other := range others {
		if got, errno := evid.Get(other); errno != api.ErrEvidForm || !reflect.DeepEqual(got, api.Evidence{}) {
			t.Errorf("text %d: error %d", i, errno)
		}
	}
	if _, errno := evid.Get("EV" + text + text); errno != api.OK {
		t.Errorf("an entry twice: error %d", errno)
	}
}

// signers makes keys for users.
func signers(t *testing.T, users int) (api.Keys, []api.HssKey) {
	k := api.Keys{Members: api.Members{Users: users}}
	var own []api.HssKey
	for user := range users {
		key := api.HssKey{Ots: api.OtsW4, Height: 2, Id: fmt.Sprintf("id of user %05d", user), Seed: fmt.Sprintf("the seed of the key of user %04d", user)}
		public, e := hss.Public(key)
		if e != api.OK {
			t.Fatalf("error %d", e)
		}
		k.Publics = append(k.Publics, public)
		own = append(own, key)
	}
	return k, own
}

// sign signs what must be signed.
func sign(t *testing.T, e api.Entry, own []api.HssKey) api.Entry {
	t.Helper()
	signed, then, errno := entry.Sign(e, own[e.User])
	if errno != api.OK {
		t.Fatalf("error %d", errno)
	}
	own[e.User] = then
	return signed
}

// P21.1: evidence that is taken, and evidence that is not.
func TestVerify(t *testing.T) {
	k, own := signers(t, 3)
	a, b := sign(t, make3(0, 5, 2, 2, 1), own), sign(t, make3(2, 5, 1, 2, 2), own)
	behind := sign(t, make3(2, 6, 2, 2, 2), own)
	twin := sign(t, changed(a, func(e *api.Entry) { e.Root[0]++ }), own)
	for i, x := range []api.Evidence{{A: a, B: b}, {A: b, B: a}, {A: a, B: twin}} {
		if errno := evid.Verify(k, x); errno != api.OK {
			t.Errorf("evidence %d: error %d", i, errno)
		}
	}
	false1 := changed(b, func(e *api.Entry) { e.Sign = a.Sign })
	for i, x := range []api.Evidence{
		{A: a, B: a}, {A: a, B: behind}, {A: a, B: false1}, {A: false1, B: a}, {A: a, B: changed(b, func(e *api.Entry) { e.Root[0]++ })},
		{A: a, B: changed(a, func(e *api.Entry) { e.Sign = twin.Sign })}, {A: make3(0, 5, 2, 2, 1), B: b},
	} {
		if errno := evid.Verify(k, x); errno != api.ErrEvidFalse {
			t.Errorf("false evidence %d: error %d", i, errno)
		}
	}
	four, ownFour := signers(t, 4)
	fourth := sign(t, make3(3, 5, 2, 2, 2), ownFour)
	if errno := evid.Verify(four, api.Evidence{A: a, B: fourth}); errno != api.OK {
		t.Errorf("a fourth user: error %d", errno)
	}
	for i, x := range []api.Evidence{{}, {A: a}, {A: a, B: fourth}, {A: fourth, B: a}, {A: a, B: changed(b, func(e *api.Entry) { e.Sign = strings.Repeat("s", 8193) })}, {A: changed(a, func(e *api.Entry) { e.Seq = 0 }), B: a}} {
		if errno := evid.Verify(k, x); errno != api.ErrEvidForm {
			t.Errorf("wrong evidence %d: error %d", i, errno)
		}
	}
	for i, bad := range []api.Keys{{}, {Members: k.Members}, {Members: k.Members, Publics: k.Publics[:2]}, {Members: api.Members{Users: 2}, Publics: k.Publics}} {
		if errno := evid.Verify(bad, api.Evidence{A: a, B: b}); errno != api.ErrEvidForm {
			t.Errorf("keys %d: error %d", i, errno)
		}
	}
}

// P21.2: of two entries of one log there is no evidence; where logs part, there is of the entries of one place.
func TestOneLogAndTwo(t *testing.T) {
	k, own := signers(t, 3)
	begin, _ := state.Empty(k.Members)
	tables, _, _ := state.Build(begin)
	grow := func(c *chain.Chain, users ...int) []api.Entry {
		var all []api.Entry
		for _, user := range users {
			e, _ := c.Next(user, tables)
			e = sign(t, e, own)
			if errno := c.Add(e); errno != api.OK {
				t.Fatalf("error %d", errno)
			}
			all = append(all, e)
		}
		return all
	}
	one, _ := chain.New(k)
	two, _ := chain.New(k)
	begun := grow(one, 0, 1)
	for _, e := range begun {
		two.Add(e)
	}
	left := append(slices.Clone(begun), grow(one, 0, 1, 2, 2)...)
	right := append(slices.Clone(begun), grow(two, 2, 1, 0, 0)...)
	for _, log := range [][]api.Entry{left, right} {
		for _, a := range log {
			for _, b := range log {
				if evid.Contrary(a, b) || evid.Verify(k, api.Evidence{A: a, B: b}) == api.OK {
					t.Errorf("entries %d and %d of one log", a.Seq, b.Seq)
				}
			}
		}
	}
	for i := range left {
		if got := evid.Verify(k, api.Evidence{A: left[i], B: right[i]}) == api.OK; got != (i >= 2) {
			t.Errorf("entries of place %d: %v", i, got)
		}
	}
}
