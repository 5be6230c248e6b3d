package lms_test

import (
	"crypto/sha256"
	"encoding/binary"
	"encoding/hex"
	"math"
	"strings"
	"testing"

	"almonry/api"
	"almonry/lms"
	"almonry/ots"
)

const (
	id   = "0123456789abcdef"
	seed = "a seed that has thirty-two bytes"
)

func u32(x int) string { return string(binary.BigEndian.AppendUint32(nil, uint32(x))) }

// key gives a key that may be.
func key(kind int, height int, next int) api.LmsKey {
	return api.LmsKey{Ots: kind, Height: height, Id: id, Seed: seed, Next: next}
}

// node tells node r of a tree, as the chapter says.
func node(t *testing.T, kind int, height int, r int) string {
	if r >= 1<<height {
		p, e := ots.Public(kind, id, r-1<<height, seed)
		if e != api.OK {
			t.Fatalf("error %d", e)
		}
		h := sha256.Sum256([]byte(id + u32(r) + "\x82\x82" + string(p[:])))
		return string(h[:])
	}
	h := sha256.Sum256([]byte(id + u32(r) + "\x83\x83" + node(t, kind, height, 2*r) + node(t, kind, height, 2*r+1)))
	return string(h[:])
}

// typeOf is the chapter's type.
func typeOf(height int) string {
	return map[int]string{1: "\xf0\x00\x00\x01", 2: "\xf0\x00\x00\x02", 3: "\xf0\x00\x00\x03", 4: "\xf0\x00\x00\x04", 5: "\x00\x00\x00\x05"}[height]
}

// wantPublic is the public key, as the chapter says.
func wantPublic(t *testing.T, kind int, height int) string {
	return typeOf(height) + u32(kind) + id + node(t, kind, height, 1)
}

// wantSign is the signature by q, as the chapter says.
func wantSign(t *testing.T, kind int, height int, q int, msg string) string {
	once, e := ots.Sign(kind, id, q, seed, msg)
	if e != api.OK {
		t.Fatalf("error %d", e)
	}
	s := u32(q) + once + typeOf(height)
	for r := 1<<height + q; r > 1; r /= 2 {
		s += node(t, kind, height, r^1)
	}
	return s
}

// P5.1: a public key that RFC 8554 tells (appendix F, the lower tree of its second case).
func TestPublicOfStandard(t *testing.T) {
	standardId, _ := hex.DecodeString("215f83b7ccb9acbcd08db97b0d04dc2b")
	standardSeed, _ := hex.DecodeString("a1c4696e2608035a886100d05cd99945eb3370731884a8235e2fb3d4d71f2547")
	got, e := lms.Public(api.LmsKey{Ots: api.OtsW8, Height: 5, Id: string(standardId), Seed: string(standardSeed)})
	want := "0000000500000004215f83b7ccb9acbcd08db97b0d04dc2ba1cd035833e0e90059603f26e07ad2aad152338e7a5e5984bcd5f7bb4eba40b7"
	if e != api.OK || hex.EncodeToString([]byte(got)) != want {
		t.Errorf("%x, error %d", got, e)
	}
}

// P5.1: public keys of each height and kind; the next index is not in them.
func TestPublic(t *testing.T) {
	for height := 1; height <= 4; height++ {
		for _, next := range []int{0, 1, 1 << height} {
			got, e := lms.Public(key(api.OtsW4, height, next))
			if e != api.OK || got != wantPublic(t, api.OtsW4, height) {
				t.Errorf("height %d: error %d", height, e)
			}
		}
	}
	if got, e := lms.Public(key(api.OtsW8, 2, 0)); e != api.OK || got != wantPublic(t, api.OtsW8, 2) {
		t.Errorf("the other kind: error %d", e)
	}
}

// P5.2: signatures by each index, byte for byte, and the key then.
func TestSign(t *testing.T) {
	for _, c := range []struct{ kind, height int }{{api.OtsW4, 1}, {api.OtsW4, 2}, {api.OtsW4, 3}, {api.OtsW8, 2}} {
		for q := range 1 << c.height {
			msg := strings.Repeat("m", q)
			got, then, e := lms.Sign(key(c.kind, c.height, q), msg)
			if e != api.OK || got != wantSign(t, c.kind, c.height, q, msg) || then != key(c.kind, c.height, q+1) {
				t.Errorf("kind %d, height %d, index %d: error %d", c.kind, c.height, q, e)
			}
		}
	}
	q := 19
	if got, then, e := lms.Sign(key(api.OtsW4, 5, q), "m"); e != api.OK || got != wantSign(t, api.OtsW4, 5, q, "m") || then.Next != q+1 {
		t.Errorf("height 5: error %d", e)
	}
}

// P5.3, P5.4: what Sign makes Verify takes, till the key is spent.
func TestThereAndBack(t *testing.T) {
	for _, k := range []api.LmsKey{key(api.OtsW4, 1, 0), key(api.OtsW4, 3, 0), key(api.OtsW8, 2, 0), key(api.OtsW4, 5, 30)} {
		public, e := lms.Public(k)
		if e != api.OK {
			t.Fatalf("error %d", e)
		}
		for k.Next < 1<<k.Height {
			msg := "message " + u32(k.Next)
			sign, then, e := lms.Sign(k, msg)
			if e != api.OK || then.Next != k.Next+1 {
				t.Fatalf("index %d: error %d", k.Next, e)
			}
			if e := lms.Verify(public, msg, sign); e != api.OK {
				t.Errorf("index %d: Verify: error %d", k.Next, e)
			}
			k = then
		}
		if sign, then, e := lms.Sign(k, "a"); e != api.ErrLmsSpent || sign != "" || then != (api.LmsKey{}) {
			t.Errorf("spent: error %d", e)
		}
	}
	full := strings.Repeat("a", api.MaxText)
	sign, _, e := lms.Sign(key(api.OtsW4, 1, 1), full)
	if e != api.OK || lms.Verify(wantPublic(t, api.OtsW4, 1), full, sign) != api.OK {
		t.Errorf("a message of MaxText bytes: error %d", e)
	}
}

// P5.1, P5.2: keys that may not be, messages that layer 4 refuses.
func TestWrongKeys(t *testing.T) {
	good := key(api.OtsW4, 2, 1)
	changes := []func(k *api.LmsKey){
		func(k *api.LmsKey) { k.Ots = 0 },
		func(k *api.LmsKey) { k.Ots = 5 },
		func(k *api.LmsKey) { k.Ots = -1 },
		func(k *api.LmsKey) { k.Height = 0 },
		func(k *api.LmsKey) { k.Height = 6 },
		func(k *api.LmsKey) { k.Height = -1 },
		func(k *api.LmsKey) { k.Height = math.MaxInt },
		func(k *api.LmsKey) { k.Id = id[1:] },
		func(k *api.LmsKey) { k.Id = id + "a" },
		func(k *api.LmsKey) { k.Seed = "" },
		func(k *api.LmsKey) { k.Seed = seed + "a" },
		func(k *api.LmsKey) { k.Next = -1 },
		func(k *api.LmsKey) { k.Next = 5 },
		func(k *api.LmsKey) { k.Next = math.MinInt },
	}
	for i, change := range changes {
		k := good
		change(&k)
		if got, e := lms.Public(k); e != api.ErrLmsForm || got != "" {
			t.Errorf("Public %d: error %d", i, e)
		}
		if got, then, e := lms.Sign(k, "a"); e != api.ErrLmsForm || got != "" || then != (api.LmsKey{}) {
			t.Errorf("Sign %d: error %d", i, e)
		}
	}
	long := strings.Repeat("a", api.MaxText+1)
	for _, k := range []api.LmsKey{good, key(api.OtsW4, 2, 4)} {
		if got, then, e := lms.Sign(k, long); e != api.ErrLmsForm || got != "" || then != (api.LmsKey{}) {
			t.Errorf("a message too long, next %d: error %d", k.Next, e)
		}
	}
}

// changed is s with another byte at some place.
func changed(s string, at int) string {
	b := []byte(s)
	b[at] ^= 1
	return string(b)
}

// P5.3: what has not the form of a public key and a signature by it.
func TestVerifyForm(t *testing.T) {
	public, sign := wantPublic(t, api.OtsW4, 2), wantSign(t, api.OtsW4, 2, 1, "a")
	end := len(sign) - 2*32
	cases := []struct{ what, public, msg, sign string }{
		{"no public", "", "a", sign},
		{"a public too short", public[:55], "a", sign},
		{"a public too long", public + "a", "a", sign},
		{"a type that is none", "\x00\x00\x00\x06" + public[4:], "a", sign},
		{"type of height 0", "\xf0\x00\x00\x00" + public[4:], "a", sign},
		{"type of height 5, told otherwise", "\xf0\x00\x00\x05" + public[4:], "a", wantSign(t, api.OtsW4, 5, 1, "a")},
		{"a kind that is none", public[:4] + "\x00\x00\x00\x02" + public[8:], "a", sign},
		{"another type's public", typeOf(3) + public[4:], "a", sign},
		{"another kind's public", public[:4] + u32(api.OtsW8) + public[8:], "a", sign},
		{"no signature", public, "a", ""},
		{"a signature too short", public, "a", sign[:len(sign)-1]},
		{"a signature too long", public, "a", sign + "a"},
		{"a node less", public, "a", sign[:len(sign)-32]},
		{"another kind", public, "a", sign[:4] + u32(api.OtsW8) + sign[8:]},
		{"a kind that is none in it", public, "a", sign[:4] + "\x00\x00\x01\x03" + sign[8:]},
		{"another type", public, "a", sign[:end-4] + typeOf(3) + sign[end:]},
		{"q too great", public, "a", u32(4) + sign[4:]},
		{"q the greatest", public, "a", u32(1<<32-1) + sign[4:]},
		{"a message too long", public, strings.Repeat("a", api.MaxText+1), sign},
		{"a type that is none, of no nodes", u32(6) + public[4:], "a", u32(0) + sign[4:end-4] + u32(6)},
		{"a kind that is none, of no parts", public[:4] + u32(9) + public[8:], "a", u32(1) + u32(9) + sign[8:40] + sign[end-4:]},
		{"a kind that is none, of neither", public[:4] + u32(9) + public[8:], "a", u32(1) + sign[end-4:]},
	}
	for _, c := range cases {
		if e := lms.Verify(c.public, c.msg, c.sign); e != api.ErrLmsForm {
			t.Errorf("%s: error %d", c.what, e)
		}
	}
}

// P5.3: what has the form, but was not signed so.
func TestVerifyFalse(t *testing.T) {
	public, sign := wantPublic(t, api.OtsW4, 2), wantSign(t, api.OtsW4, 2, 1, "a")
	cases := []struct{ what, public, msg, sign string }{
		{"another message", public, "b", sign},
		{"another id", changed(public, 8), "a", sign},
		{"another root's first byte", changed(public, 24), "a", sign},
		{"another root's last byte", changed(public, 55), "a", sign},
		{"another q", public, "a", u32(3) + sign[4:]},
		{"q of the leaf beside", public, "a", u32(0) + sign[4:]},
		{"another C", public, "a", changed(sign, 8)},
		{"another part", public, "a", changed(sign, 40)},
		{"another last part", public, "a", changed(sign, 4+36+67*32-1)},
		{"another first node", public, "a", changed(sign, len(sign)-64)},
		{"another last node", public, "a", changed(sign, len(sign)-1)},
	}
	if e := lms.Verify(public, "a", sign); e != api.OK {
		t.Fatalf("error %d", e)
	}
	for _, c := range cases {
		if e := lms.Verify(c.public, c.msg, c.sign); e != api.ErrLmsFalse {
			t.Errorf("%s: error %d", c.what, e)
		}
	}
}
