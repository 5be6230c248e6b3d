package msgs_test

import (
	"math"
	"reflect"
	"slices"
	"strings"
	"testing"

	"almonry/api"
	"almonry/entry"
	"almonry/msgs"
)

// sample gives an entry that may be, with a signature of n bytes.
func sample(n int) api.Entry {
	return api.Entry{User: 1, Seq: 3, Vec: []int{1, 2}, Root: api.Hash{9}, Tables: []api.Hash{{1}, {2}}, Sign: strings.Repeat("s", n)}
}

// wantBytes are the chapter's bytes.
func wantBytes(m api.Msg) string {
	text := func(s string) string { return string([]byte{byte(len(s) >> 8), byte(len(s))}) + s }
	s := "MG" + string([]byte{byte(m.Kind), byte(m.User), byte(m.From >> 8), byte(m.From), byte(len(m.Entries))})
	for _, e := range m.Entries {
		bytes, _ := entry.Put(e)
		s += text(bytes)
	}
	s += string([]byte{byte(len(m.Wants))})
	for _, h := range m.Wants {
		s += string(h[:])
	}
	s += string([]byte{byte(len(m.Objects))})
	for _, o := range m.Objects {
		s += text(o)
	}
	return s
}

// same says if two messages are one, an empty list and none alike.
func same(a api.Msg, b api.Msg) bool {
	return a.Kind == b.Kind && a.User == b.User && a.From == b.From && slices.Equal(a.Wants, b.Wants) && slices.Equal(a.Objects, b.Objects) &&
		slices.EqualFunc(a.Entries, b.Entries, func(x api.Entry, y api.Entry) bool { return reflect.DeepEqual(x, y) })
}

// good are messages that may be.
func good() []api.Msg {
	all := []api.Msg{
		{Kind: api.MsgFetch, User: 255, From: 65535},
		{Kind: api.MsgEntries, User: 3, From: 0x0102, Entries: []api.Entry{sample(0), sample(8192), sample(3)}},
		{Kind: api.MsgWant, Wants: []api.Hash{{1}, {}, {0xff}}},
		{Kind: api.MsgObjects, Objects: []string{"", "a", strings.Repeat("o", 300), "\x00"}},
		{Kind: api.MsgAppend, User: 2, From: 5, Entries: []api.Entry{sample(10)}, Wants: []api.Hash{{7}}, Objects: []string{"b"}},
		{Kind: api.MsgWant, Wants: make([]api.Hash, 255)},
		{Kind: api.MsgObjects, Objects: make([]string, 255)},
		{Kind: api.MsgEntries, Entries: slices.Repeat([]api.Entry{sample(1)}, 255)},
		{Kind: api.MsgDone, Entries: []api.Entry{}, Wants: []api.Hash{}, Objects: []string{}},
		{Kind: api.MsgObjects, Objects: []string{strings.Repeat("x", api.MaxText-11)}},
		{Kind: api.MsgObjects, User: 1, Objects: []string{strings.Repeat("x", 65000), strings.Repeat("y", api.MaxText-65000-13)}},
	}
	for kind := range 7 {
		all = append(all, api.Msg{Kind: kind, User: kind, From: kind})
	}
	return all
}

// P22.1: the bytes of messages, and back.
func TestBytes(t *testing.T) {
	for i, m := range good() {
		if got, errno := msgs.Put(m); errno != api.OK || got != wantBytes(m) {
			t.Errorf("message %d: Put: error %d", i, errno)
		}
		if got, errno := msgs.Get(wantBytes(m)); errno != api.OK || !same(got, m) {
			t.Errorf("message %d: Get: error %d", i, errno)
		}
	}
}

// P22.1: messages that may not be.
func TestWrongMessages(t *testing.T) {
	for i, m := range []api.Msg{
		{Kind: -1}, {Kind: 7}, {Kind: 255}, {Kind: math.MaxInt}, {Kind: math.MinInt},
		{User: -1}, {User: 256}, {From: -1}, {From: 65536}, {User: math.MinInt}, {From: math.MaxInt},
		{Entries: slices.Repeat([]api.Entry{sample(1)}, 256)}, {Wants: make([]api.Hash, 256)}, {Objects: make([]string, 256)},
		{Entries: []api.Entry{{}}}, {Entries: []api.Entry{sample(1), sample(8193)}}, {Entries: []api.Entry{{User: 16}}},
		{Objects: []string{strings.Repeat("x", 65536)}}, {Objects: []string{strings.Repeat("x", 65535)}}, {Objects: []string{strings.Repeat("x", api.MaxText-10)}},
		{Objects: []string{strings.Repeat("x", 65000), strings.Repeat("y", api.MaxText-65000-12)}}, {Wants: make([]api.Hash, 255), Objects: []string{strings.Repeat("x", 60000)}},
		{Entries: slices.Repeat([]api.Entry{sample(8000)}, 9)}, {Wants: make([]api.Hash, 1<<16)},
	} {
		if got, errno := msgs.Put(m); errno != api.ErrMsgsForm || got != "" {
			t.Errorf("message %d: error %d, %d bytes", i, errno, len(got))
		}
	}
}

// P22.1: bytes that are not just a message's.
func TestWrongBytes(t *testing.T) {
	s := wantBytes(api.Msg{Kind: api.MsgAppend, User: 2, From: 5, Entries: []api.Entry{sample(3)}, Wants: []api.Hash{{7}}, Objects: []string{"ab"}})
	empty := wantBytes(api.Msg{})
	others := []string{
		s + "\x00", "MH" + s[2:], "mg" + s[2:], " " + s, "MG\x07" + s[3:], "MG\xff" + s[3:], empty + "a",
		empty[:6] + "\x01\x00\x00\x00\x00", empty[:6] + "\x01\x00\x02AE\x00\x00",
		wantBytes(api.Msg{Kind: 3, Objects: []string{strings.Repeat("x", api.MaxText-10)}}), strings.Repeat("M", 200000),
		wantBytes(api.Msg{Kind: 3, Objects: []string{strings.Repeat("x", 40000), strings.Repeat("x", 40000)}}),
		"MG\x01" + wantBytes(api.Msg{Entries: []api.Entry{sample(8193)}})[3:],
	}
	for n := range len(s) {
		others = append(others, s[:n])
	}
	bytes, _ := entry.Put(sample(3))
	others = append(others, strings.Replace(s, bytes, bytes[:len(bytes)-1]+"\x00", 1)[:len(s)-1], strings.Replace(s, "AE", "AF", 1), strings.Replace(s, "AE\x01", "AE\x10", 1))
	for i, other := range others {
		if got, errno := msgs.Get(other); errno != api.ErrMsgsForm || !reflect.DeepEqual(got, api.Msg{}) {
			t.Errorf("text %d: error %d", i, errno)
		}
	}
}

// R4: what is told is not what was handed in.
func TestListsStay(t *testing.T) {
	m := api.Msg{Entries: []api.Entry{sample(1)}, Wants: []api.Hash{{1}}, Objects: []string{"a"}}
	s, _ := msgs.Put(m)
	got, _ := msgs.Get(s)
	got.Entries[0].Vec[0], got.Wants[0], got.Objects[0] = 99, api.Hash{99}, "changed"
	again, _ := msgs.Get(s)
	if !same(again, m) {
		t.Error("lists are shared")
	}
}
