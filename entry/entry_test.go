package entry_test

import (
	"crypto/sha256"
	"encoding/binary"
	"math"
	"reflect"
	"slices"
	"strings"
	"testing"

	"almonry/api"
	"almonry/entry"
	"almonry/hss"
)

// sample gives an entry that may be.
func sample() api.Entry {
	return api.Entry{User: 2, Seq: 0x0100, Vec: []int{0, 256, 3}, Root: api.Hash{7, 8}, Tables: []api.Hash{{1}, {}, {0xff}}, Sign: "signature"}
}

// changed is it with one change.
func changed(change func(e *api.Entry)) api.Entry {
	e := sample()
	change(&e)
	return e
}

// good are entries that may be; the first ones have no Sign that is too long.
func good() []api.Entry {
	return []api.Entry{
		sample(),
		changed(func(e *api.Entry) { e.User = 0 }),
		changed(func(e *api.Entry) { e.User = 15 }),
		changed(func(e *api.Entry) { e.Seq = 1 }),
		changed(func(e *api.Entry) { e.Seq = 255 }),
		changed(func(e *api.Entry) { e.Vec = []int{0} }),
		changed(func(e *api.Entry) { e.Vec = make([]int, 16) }),
		changed(func(e *api.Entry) { e.Root = api.Hash{} }),
		changed(func(e *api.Entry) { e.Tables = e.Tables[:1] }),
		changed(func(e *api.Entry) { e.Tables = make([]api.Hash, 24) }),
		changed(func(e *api.Entry) { e.Sign = "" }),
		changed(func(e *api.Entry) { e.Sign = strings.Repeat("s", 8192) }),
	}
}

// bad are entries that may not be.
func bad() []api.Entry {
	return []api.Entry{
		{},
		changed(func(e *api.Entry) { e.User = -1 }),
		changed(func(e *api.Entry) { e.User = 16 }),
		changed(func(e *api.Entry) { e.User = math.MaxInt }),
		changed(func(e *api.Entry) { e.Seq = 0 }),
		changed(func(e *api.Entry) { e.Seq = 257 }),
		changed(func(e *api.Entry) { e.Seq = -1 }),
		changed(func(e *api.Entry) { e.Seq = math.MinInt }),
		changed(func(e *api.Entry) { e.Vec = nil }),
		changed(func(e *api.Entry) { e.Vec = make([]int, 17) }),
		changed(func(e *api.Entry) { e.Vec[1] = 257 }),
		changed(func(e *api.Entry) { e.Vec[1] = -1 }),
		changed(func(e *api.Entry) { e.Tables = nil }),
		changed(func(e *api.Entry) { e.Tables = make([]api.Hash, 25) }),
	}
}

// wantBody and wantBytes are the chapter's bytes.
func wantBody(e api.Entry) string {
	s := "AE" + string([]byte{byte(e.User), byte(e.Seq >> 8), byte(e.Seq), byte(len(e.Vec))})
	for _, x := range e.Vec {
		s += string([]byte{byte(x >> 8), byte(x)})
	}
	s += string(e.Root[:]) + string([]byte{byte(len(e.Tables))})
	for _, h := range e.Tables {
		s += string(h[:])
	}
	return s
}

func wantBytes(e api.Entry) string {
	return wantBody(e) + string([]byte{byte(len(e.Sign) >> 8), byte(len(e.Sign))}) + e.Sign
}

// P19.1: the bytes of entries, and back.
func TestBytes(t *testing.T) {
	for i, e := range good() {
		if got, errno := entry.Body(e); errno != api.OK || got != wantBody(e) {
			t.Errorf("entry %d: Body: error %d, %q", i, errno, got)
		}
		if got, errno := entry.Put(e); errno != api.OK || got != wantBytes(e) {
			t.Errorf("entry %d: Put: error %d", i, errno)
		}
		if got, errno := entry.Get(wantBytes(e)); errno != api.OK || !reflect.DeepEqual(got, e) {
			t.Errorf("entry %d: Get: error %d, %v", i, errno, got)
		}
	}
}

// P19.1: what may not be has no bytes.
func TestWrongEntries(t *testing.T) {
	for i, e := range bad() {
		if got, errno := entry.Body(e); errno != api.ErrEntryForm || got != "" {
			t.Errorf("entry %d: Body: error %d", i, errno)
		}
		if got, errno := entry.Put(e); errno != api.ErrEntryForm || got != "" {
			t.Errorf("entry %d: Put: error %d", i, errno)
		}
	}
	for _, n := range []int{8193, 65535, 65536, 100000} {
		long := changed(func(e *api.Entry) { e.Sign = strings.Repeat("s", n) })
		if got, errno := entry.Put(long); errno != api.ErrEntryForm || got != "" {
			t.Errorf("a Sign of %d bytes: Put: error %d", n, errno)
		}
		if got, errno := entry.Body(long); errno != api.OK || got != wantBody(long) {
			t.Errorf("a Sign of %d bytes: Body: error %d", n, errno)
		}
	}
}

// P19.1: bytes that are not just an entry's.
func TestWrongBytes(t *testing.T) {
	s := wantBytes(sample())
	for n := range len(s) {
		if got, errno := entry.Get(s[:n]); errno != api.ErrEntryForm || !reflect.DeepEqual(got, api.Entry{}) {
			t.Errorf("%d bytes of %d: error %d", n, len(s), errno)
		}
	}
	others := []string{s + "\x00", "AF" + s[2:], "aE" + s[2:], " " + s, strings.Repeat("A", 70000)}
	for _, e := range append(bad(), changed(func(e *api.Entry) { e.Sign = strings.Repeat("s", 8193) })) {
		if len(e.Tables) > 0 && (e.User != int(byte(e.User)) || e.Seq != int(uint16(e.Seq)) || slices.Contains(e.Vec, -1)) {
			continue
		}
		others = append(others, wantBytes(e))
	}
	for i, other := range others {
		if got, errno := entry.Get(other); errno != api.ErrEntryForm || !reflect.DeepEqual(got, api.Entry{}) {
			t.Errorf("text %d: error %d", i, errno)
		}
	}
}

// key gives a key that may be.
func key() api.HssKey {
	return api.HssKey{Ots: api.OtsW4, Height: 1, Id: "0123456789abcdef", Seed: "a seed that has thirty-two bytes", Next: 1}
}

// digest is what is signed, written out.
func digest(e api.Entry) string {
	body := wantBody(e)
	h := sha256.Sum256([]byte("\x01" + string(binary.BigEndian.AppendUint32(nil, uint32(len(body)))) + body))
	return string(h[:])
}

// P19.2: the signature is layer 6's of the digest; Verify takes it.
func TestSignAndVerify(t *testing.T) {
	public, _ := hss.Public(key())
	for i, e := range good() {
		signed, then, errno := entry.Sign(e, key())
		want, wantThen, _ := hss.Sign(key(), digest(e))
		if errno != api.OK || signed.Sign != want || then != wantThen {
			t.Fatalf("entry %d: Sign: error %d", i, errno)
		}
		if wantBody(signed) != wantBody(e) || !reflect.DeepEqual(e, good()[i]) {
			t.Errorf("entry %d is another one then", i)
		}
		if errno := entry.Verify(signed, public); errno != api.OK {
			t.Errorf("entry %d: Verify: error %d", i, errno)
		}
	}
	long := changed(func(e *api.Entry) { e.Sign = strings.Repeat("s", 9000) })
	if signed, _, errno := entry.Sign(long, key()); errno != api.OK || entry.Verify(signed, public) != api.OK {
		t.Errorf("an old Sign that is too long: error %d", errno)
	}
}

// P19.2: the errors of Sign.
func TestWrongSigns(t *testing.T) {
	spent, wrong := key(), key()
	spent.Next = 4
	wrong.Height = 9
	check := func(what string, e api.Entry, k api.HssKey, want api.Errno) {
		t.Helper()
		got, then, errno := entry.Sign(e, k)
		if errno != want || !reflect.DeepEqual(got, api.Entry{}) || then != (api.HssKey{}) {
			t.Errorf("%s: error %d, not %d", what, errno, want)
		}
	}
	check("a spent key", sample(), spent, api.ErrHssSpent)
	check("a wrong key", sample(), wrong, api.ErrHssForm)
	for _, e := range bad() {
		check("a wrong entry", e, key(), api.ErrEntryForm)
		check("a wrong entry, a spent key", e, spent, api.ErrEntryForm)
		check("a wrong entry, a wrong key", e, wrong, api.ErrEntryForm)
	}
}

// P19.2: the errors of Verify.
func TestWrongVerifies(t *testing.T) {
	public, _ := hss.Public(key())
	signed, _, _ := entry.Sign(sample(), key())
	change := func(f func(e *api.Entry)) api.Entry {
		e := signed
		e.Vec, e.Tables = slices.Clone(e.Vec), slices.Clone(e.Tables)
		f(&e)
		return e
	}
	for i, e := range []api.Entry{
		change(func(e *api.Entry) { e.User = 1 }),
		change(func(e *api.Entry) { e.Seq++; e.Seq = 9 }),
		change(func(e *api.Entry) { e.Vec[0]++ }),
		change(func(e *api.Entry) { e.Vec = e.Vec[:2] }),
		change(func(e *api.Entry) { e.Root[31]++ }),
		change(func(e *api.Entry) { e.Tables[1][0]++ }),
		change(func(e *api.Entry) { e.Tables = e.Tables[:2] }),
		change(func(e *api.Entry) { e.Sign = "" }),
		change(func(e *api.Entry) { e.Sign = e.Sign[1:] }),
		change(func(e *api.Entry) { e.Sign = strings.Repeat("s", len(e.Sign)) }),
		change(func(e *api.Entry) { e.Sign = e.Sign[:len(e.Sign)-1] + "\x00" }),
	} {
		if errno := entry.Verify(e, public); errno != api.ErrEntryFalse {
			t.Errorf("entry %d: error %d", i, errno)
		}
	}
	for _, p := range []string{"", public[1:], public + "a", strings.Repeat("\x00", 60), public[:59] + "\x00"} {
		if errno := entry.Verify(signed, p); errno != api.ErrEntryFalse {
			t.Errorf("another public: error %d", errno)
		}
	}
	for i, e := range append(bad(), change(func(e *api.Entry) { e.Sign = strings.Repeat("s", 8193) })) {
		if errno := entry.Verify(e, public); errno != api.ErrEntryForm {
			t.Errorf("entry %d that may not be: error %d", i, errno)
		}
		if errno := entry.Verify(e, ""); errno != api.ErrEntryForm {
			t.Errorf("entry %d that may not be, no public: error %d", i, errno)
		}
	}
}

// R4: answers are apart from what was handed in.
func TestListsStay(t *testing.T) {
	e := sample()
	signed, _, _ := entry.Sign(e, key())
	signed.Vec[0], signed.Tables[0] = 99, api.Hash{99}
	if !reflect.DeepEqual(e, sample()) {
		t.Error("lists are shared")
	}
}
