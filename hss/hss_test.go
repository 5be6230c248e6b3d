package hss_test

import (
	"encoding/binary"
	"math"
	"strings"
	"testing"

	"almonry/api"
	"almonry/hss"
	"almonry/lms"
	"almonry/tag"
)

const (
	id   = "0123456789abcdef"
	seed = "a seed that has thirty-two bytes"
)

func u32(x int) string { return string(binary.BigEndian.AppendUint32(nil, uint32(x))) }

// key gives a key that may be.
func key(kind int, height int, next int) api.HssKey {
	return api.HssKey{Ots: kind, Height: height, Id: id, Seed: seed, Next: next}
}

// power is 4^height.
func power(height int) int {
	return 1 << (2 * height)
}

// upperOf and lowerOf are the chapter's two keys.
func upperOf(k api.HssKey) api.LmsKey {
	return api.LmsKey{Ots: k.Ots, Height: k.Height, Id: k.Id, Seed: k.Seed, Next: k.Next / (1 << k.Height)}
}

func lowerOf(t *testing.T, k api.HssKey) api.LmsKey {
	child, e := tag.Sum(api.TagChild, k.Id, k.Seed, u32(k.Next/(1<<k.Height)))
	if e != api.OK {
		t.Fatalf("error %d", e)
	}
	below, e := tag.Sum(api.TagSeed, k.Id, k.Seed, u32(k.Next/(1<<k.Height)))
	if e != api.OK {
		t.Fatalf("error %d", e)
	}
	return api.LmsKey{Ots: k.Ots, Height: k.Height, Id: string(child[:16]), Seed: string(below[:]), Next: k.Next % (1 << k.Height)}
}

// lmsPublic and lmsSign are layer 5's, which must answer.
func lmsPublic(t *testing.T, k api.LmsKey) string {
	s, e := lms.Public(k)
	if e != api.OK {
		t.Fatalf("error %d", e)
	}
	return s
}

func lmsSign(t *testing.T, k api.LmsKey, msg string) string {
	s, _, e := lms.Sign(k, msg)
	if e != api.OK {
		t.Fatalf("error %d", e)
	}
	return s
}

// wantSign is the signature, as the chapter says.
func wantSign(t *testing.T, k api.HssKey, msg string) string {
	low := lowerOf(t, k)
	public := lmsPublic(t, low)
	return u32(1) + lmsSign(t, upperOf(k), public) + public + lmsSign(t, low, msg)
}

// P6.1: the public key is the upper one's, whatever the next index.
func TestPublic(t *testing.T) {
	for _, c := range []struct{ kind, height int }{{api.OtsW4, 1}, {api.OtsW4, 3}, {api.OtsW4, 5}, {api.OtsW8, 2}} {
		want := u32(2) + lmsPublic(t, upperOf(key(c.kind, c.height, 0)))
		for _, next := range []int{0, 1, power(c.height) - 1, power(c.height)} {
			if got, e := hss.Public(key(c.kind, c.height, next)); e != api.OK || got != want || len(got) != 60 {
				t.Errorf("height %d, next %d: error %d", c.height, next, e)
			}
		}
	}
}

// P6.2: signatures, byte for byte, and the key then; the index goes over from one lower key to the next.
func TestSign(t *testing.T) {
	for _, k := range []api.HssKey{
		key(api.OtsW4, 1, 0), key(api.OtsW4, 1, 1), key(api.OtsW4, 1, 2), key(api.OtsW4, 1, 3),
		key(api.OtsW4, 2, 3), key(api.OtsW4, 2, 4), key(api.OtsW4, 2, 15), key(api.OtsW4, 3, 63),
		key(api.OtsW4, 5, 0), key(api.OtsW4, 5, 1000), key(api.OtsW8, 1, 2),
	} {
		msg := strings.Repeat("m", k.Next)
		got, then, e := hss.Sign(k, msg)
		want := k
		want.Next++
		if e != api.OK || got != wantSign(t, k, msg) || then != want {
			t.Errorf("height %d, next %d: error %d", k.Height, k.Next, e)
		}
	}
}

// P6.2, P6.3: all indices of a key, till it is spent.
func TestThereAndBack(t *testing.T) {
	k := key(api.OtsW4, 2, 0)
	public, e := hss.Public(k)
	if e != api.OK {
		t.Fatalf("error %d", e)
	}
	seen := map[string]bool{}
	for k.Next < power(2) {
		if left := hss.Left(k); left != power(2)-k.Next {
			t.Errorf("next %d: %d left", k.Next, left)
		}
		msg := "message " + u32(k.Next)
		sign, then, e := hss.Sign(k, msg)
		if e != api.OK || hss.Verify(public, msg, sign) != api.OK {
			t.Fatalf("next %d: error %d", k.Next, e)
		}
		if seen[sign] {
			t.Errorf("next %d: a signature twice", k.Next)
		}
		seen[sign] = true
		k = then
	}
	if sign, then, e := hss.Sign(k, "a"); e != api.ErrHssSpent || sign != "" || then != (api.HssKey{}) || hss.Left(k) != 0 {
		t.Errorf("spent: error %d, %d left", e, hss.Left(k))
	}
	full := strings.Repeat("a", api.MaxText)
	sign, _, e := hss.Sign(key(api.OtsW4, 2, 7), full)
	if e != api.OK || hss.Verify(public, full, sign) != api.OK {
		t.Errorf("a message of MaxText bytes: error %d", e)
	}
}

// P6.1, P6.2: keys that may not be, messages that layer 4 refuses.
func TestWrongKeys(t *testing.T) {
	changes := []func(k *api.HssKey){
		func(k *api.HssKey) { k.Ots = 0 },
		func(k *api.HssKey) { k.Ots = 5 },
		func(k *api.HssKey) { k.Height = 0 },
		func(k *api.HssKey) { k.Height = 6 },
		func(k *api.HssKey) { k.Height = math.MinInt },
		func(k *api.HssKey) { k.Height = math.MaxInt },
		func(k *api.HssKey) { k.Id = "" },
		func(k *api.HssKey) { k.Id = id + "a" },
		func(k *api.HssKey) { k.Seed = seed[1:] },
		func(k *api.HssKey) { k.Seed = seed + "a" },
		func(k *api.HssKey) { k.Next = -1 },
		func(k *api.HssKey) { k.Next = power(2) + 1 },
		func(k *api.HssKey) { k.Next = math.MaxInt },
	}
	for i, change := range changes {
		k := key(api.OtsW4, 2, 1)
		change(&k)
		if got, e := hss.Public(k); e != api.ErrHssForm || got != "" {
			t.Errorf("Public %d: error %d", i, e)
		}
		if got, then, e := hss.Sign(k, "a"); e != api.ErrHssForm || got != "" || then != (api.HssKey{}) {
			t.Errorf("Sign %d: error %d", i, e)
		}
		if hss.Left(k) != 0 {
			t.Errorf("Left %d: %d", i, hss.Left(k))
		}
	}
	long := strings.Repeat("a", api.MaxText+1)
	for _, next := range []int{0, power(2)} {
		if got, then, e := hss.Sign(key(api.OtsW4, 2, next), long); e != api.ErrHssForm || got != "" || then != (api.HssKey{}) {
			t.Errorf("a message too long, next %d: error %d", next, e)
		}
	}
}

// changed is s with another byte at some place.
func changed(s string, at int) string {
	b := []byte(s)
	b[at] ^= 1
	return string(b)
}

// The places in a signature of two levels of height 2, OtsW4.
const (
	lmsLength = 4 + 2180 + 4 + 64
	lowPublic = 4 + lmsLength
	lowSign   = lowPublic + 56
)

// P6.3: what has not the form.
func TestVerifyForm(t *testing.T) {
	k := key(api.OtsW4, 2, 6)
	public, _ := hss.Public(k)
	sign := wantSign(t, k, "a")
	if len(sign) != lowSign+lmsLength || hss.Verify(public, "a", sign) != api.OK {
		t.Fatalf("%d bytes", len(sign))
	}
	other := key(api.OtsW4, 3, 6)
	cases := []struct{ what, public, msg, sign string }{
		{"no public", "", "a", sign},
		{"a public too short", public[:59], "a", sign},
		{"a public too long", public + "a", "a", sign},
		{"a public of a number alone", u32(2), "a", sign},
		{"a public of a type alone", public[:8], "a", sign},
		{"one level", u32(1) + public[4:], "a", sign},
		{"a public of no type", public[:4] + u32(6) + public[8:], "a", sign},
		{"a public of no kind", public[:8] + u32(2) + public[12:], "a", sign},
		{"a public of another type", public[:4] + u32(5) + public[8:], "a", sign},
		{"a public of another kind", public[:8] + u32(api.OtsW8) + public[12:], "a", sign},
		{"no signature", public, "a", ""},
		{"a number alone", public, "a", u32(1)},
		{"no number", public, "a", sign[4:]},
		{"another number of levels", public, "a", u32(0) + sign[4:]},
		{"two levels ahead", public, "a", u32(2) + sign[4:]},
		{"cut in the upper signature", public, "a", sign[:100]},
		{"cut in the lower public", public, "a", sign[:lowPublic+20]},
		{"cut ahead of the lower signature", public, "a", sign[:lowSign]},
		{"a byte less", public, "a", sign[:len(sign)-1]},
		{"a byte more", public, "a", sign + "a"},
		{"upper q too great", public, "a", sign[:4] + u32(4) + sign[8:]},
		{"upper kind", public, "a", sign[:8] + u32(api.OtsW8) + sign[12:]},
		{"lower public's type", public, "a", sign[:lowPublic] + u32(6) + sign[lowPublic+4:]},
		{"lower public's kind", public, "a", sign[:lowPublic+4] + u32(5) + sign[lowPublic+8:]},
		{"lower public's other type", public, "a", sign[:lowPublic] + u32(5) + sign[lowPublic+4:]},
		{"lower q too great", public, "a", sign[:lowSign] + u32(4) + sign[lowSign+4:]},
		{"lower q too great, upper false", public, "a", changed(sign[:lowSign]+u32(4)+sign[lowSign+4:], 50)},
		{"upper q too great, lower false", public, "b", sign[:4] + u32(4) + sign[8:]},
		{"a message too long", public, strings.Repeat("a", api.MaxText+1), sign},
		{"another height's public", mustPublic(t, other), "a", sign},
		{"another height's signature", public, "a", wantSign(t, other, "a")},
	}
	for _, c := range cases {
		if e := hss.Verify(c.public, c.msg, c.sign); e != api.ErrHssForm {
			t.Errorf("%s: error %d", c.what, e)
		}
	}
}

// mustPublic is a key's public, which must be told.
func mustPublic(t *testing.T, k api.HssKey) string {
	s, e := hss.Public(k)
	if e != api.OK {
		t.Fatalf("error %d", e)
	}
	return s
}

// P6.3: what has the form, but was not signed so.
func TestVerifyFalse(t *testing.T) {
	k := key(api.OtsW4, 2, 6)
	public, _ := hss.Public(k)
	sign := wantSign(t, k, "a")
	cases := []struct{ what, public, msg, sign string }{
		{"another message", public, "b", sign},
		{"another id", changed(public, 12), "a", sign},
		{"another root", changed(public, 59), "a", sign},
		{"the upper q", public, "a", changed(sign, 7)},
		{"the upper part", public, "a", changed(sign, 100)},
		{"the upper node", public, "a", changed(sign, lowPublic-1)},
		{"the lower public's id", public, "a", changed(sign, lowPublic+10)},
		{"the lower public's root", public, "a", changed(sign, lowSign-1)},
		{"the lower q", public, "a", changed(sign, lowSign+3)},
		{"the lower part", public, "a", changed(sign, lowSign+60)},
		{"the lower node", public, "a", changed(sign, len(sign)-1)},
	}
	for _, c := range cases {
		if e := hss.Verify(c.public, c.msg, c.sign); e != api.ErrHssFalse {
			t.Errorf("%s: error %d", c.what, e)
		}
	}
}

// P6.3: the lower level may be of another kind and height: its own public says which.
func TestVerifyOfUnlikeLevels(t *testing.T) {
	high := upperOf(key(api.OtsW4, 2, 0))
	for _, low := range []api.LmsKey{
		{Ots: api.OtsW8, Height: 1, Id: id, Seed: seed, Next: 1},
		{Ots: api.OtsW4, Height: 3, Id: id, Seed: seed, Next: 5},
	} {
		public := lmsPublic(t, low)
		sign := u32(1) + lmsSign(t, high, public) + public + lmsSign(t, low, "a")
		if e := hss.Verify(u32(2)+lmsPublic(t, high), "a", sign); e != api.OK {
			t.Errorf("kind %d, height %d: error %d", low.Ots, low.Height, e)
		}
	}
}
