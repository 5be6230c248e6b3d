package ots_test

import (
	"crypto/sha256"
	"encoding/binary"
	"math"
	"strings"
	"testing"

	"almonry/api"
	"almonry/ots"
)

const (
	id   = "0123456789abcdef"
	seed = "a seed that has thirty-two bytes"
)

// u16 and u32 tell numbers as bytes, independently of the program.
func u16(x int) []byte { return binary.BigEndian.AppendUint16(nil, uint16(x)) }
func u32(x int) []byte { return binary.BigEndian.AppendUint32(nil, uint32(x)) }

// h is the chapter's H.
func h(parts ...[]byte) []byte {
	d := sha256.New()
	for _, p := range parts {
		d.Write(p)
	}
	return d.Sum(nil)
}

// width and count tell a kind's w and p.
func width(kind int) int { return map[int]int{api.OtsW4: 4, api.OtsW8: 8}[kind] }
func count(kind int) int { return map[int]int{api.OtsW4: 67, api.OtsW8: 34}[kind] }

// chain does the steps from one up to another, as the chapter says.
func chain(q int, i int, from int, to int, v []byte) []byte {
	for j := from; j < to; j++ {
		v = h([]byte(id), u32(q), u16(i), []byte{byte(j)}, v)
	}
	return v
}

// secret is x[i].
func secret(q int, i int) []byte {
	return h([]byte(id), u32(q), u16(i), []byte{255}, []byte(seed))
}

// wantPublic is the public key, as the chapter says.
func wantPublic(kind int, q int) api.Hash {
	all := [][]byte{[]byte(id), u32(q), u16(0x8080)}
	for i := range count(kind) {
		all = append(all, chain(q, i, 0, 1<<width(kind)-1, secret(q, i)))
	}
	return api.Hash(h(all...))
}

// wantDigits are a message's digits, as the chapter says.
func wantDigits(kind int, q int, c []byte, msg string) []int {
	hashed := h([]byte(id), u32(q), u16(0x8181), c, []byte(msg))
	if kind == api.OtsW8 {
		sum := 0
		var ds []int
		for _, b := range hashed {
			ds = append(ds, int(b))
			sum += 255 - int(b)
		}
		return append(ds, sum>>8, sum&255)
	}
	sum := 0
	var ds []int
	for _, b := range hashed {
		ds = append(ds, int(b>>4), int(b&15))
		sum += 30 - int(b>>4) - int(b&15)
	}
	sum <<= 4
	return append(ds, sum>>12, sum>>8&15, sum>>4&15)
}

// wantSign is the signature, as the chapter says.
func wantSign(kind int, q int, msg string) string {
	c := h([]byte(id), u32(q), u16(0xfffd), []byte{255}, []byte(seed))
	s := append(u32(kind), c...)
	for i, d := range wantDigits(kind, q, c, msg) {
		s = append(s, chain(q, i, 0, d, secret(q, i))...)
	}
	return string(s)
}

var qs = []int{0, 1, 31, 256, 0x01020304, 1<<32 - 1}

// P4.1: the public key of each kind, of several q.
func TestPublic(t *testing.T) {
	for _, kind := range []int{api.OtsW4, api.OtsW8} {
		for _, q := range qs {
			got, e := ots.Public(kind, id, q, seed)
			if e != api.OK || got != wantPublic(kind, q) {
				t.Errorf("kind %d, q %d: error %d", kind, q, e)
			}
		}
	}
}

// P4.2: signatures of each kind, byte for byte.
func TestSign(t *testing.T) {
	for _, kind := range []int{api.OtsW4, api.OtsW8} {
		for i, msg := range []string{"", "a", "another message", strings.Repeat("long", 5000), strings.Repeat("x", api.MaxText)} {
			q := qs[i]
			got, e := ots.Sign(kind, id, q, seed, msg)
			if e != api.OK || got != wantSign(kind, q, msg) {
				t.Errorf("kind %d, %d bytes: error %d", kind, len(msg), e)
			}
		}
	}
}

// P4.3, P4.4: the candidate of a signature is the public key.
func TestCandidate(t *testing.T) {
	for _, kind := range []int{api.OtsW4, api.OtsW8} {
		for i, msg := range []string{"", "b", strings.Repeat("q", 1000), strings.Repeat("y", api.MaxText)} {
			q := qs[i+1]
			got, e := ots.Candidate(id, q, msg, wantSign(kind, q, msg))
			if e != api.OK || got != wantPublic(kind, q) {
				t.Errorf("kind %d, %d bytes: error %d", kind, len(msg), e)
			}
		}
	}
}

// P4.4: there and back by the program alone, over many messages.
func TestThereAndBack(t *testing.T) {
	want, _ := ots.Public(api.OtsW4, id, 7, seed)
	for i := range 60 {
		msg := strings.Repeat(string(rune('a'+i%26)), i)
		sign, e := ots.Sign(api.OtsW4, id, 7, seed, msg)
		if e != api.OK {
			t.Fatalf("error %d", e)
		}
		if got, e := ots.Candidate(id, 7, msg, sign); e != api.OK || got != want {
			t.Errorf("message %d: error %d", i, e)
		}
	}
}

// P4.3: of anything else the candidate is another one.
func TestCandidateOfOthers(t *testing.T) {
	for _, kind := range []int{api.OtsW4, api.OtsW8} {
		want := wantPublic(kind, 5)
		sign := wantSign(kind, 5, "message")
		check := func(what string, got api.Hash, e api.Errno) {
			if e != api.OK || got == want {
				t.Errorf("kind %d, %s: error %d", kind, what, e)
			}
		}
		got, e := ots.Candidate(id, 5, "massage", sign)
		check("another message", got, e)
		got, e = ots.Candidate(id, 6, "message", sign)
		check("another q", got, e)
		got, e = ots.Candidate("0123456789abcdeF", 5, "message", sign)
		check("another id", got, e)
		for _, at := range []int{4, 35, 36, len(sign) - 1} {
			other := []byte(sign)
			other[at] ^= 1
			got, e = ots.Candidate(id, 5, "message", string(other))
			check("another byte", got, e)
		}
	}
}

// P4.1, P4.2: what is none of these.
func TestWrongKeys(t *testing.T) {
	cases := []struct {
		kind int
		id   string
		q    int
		seed string
	}{
		{0, id, 1, seed}, {2, id, 1, seed}, {5, id, 1, seed}, {-1, id, 1, seed}, {math.MaxInt, id, 1, seed},
		{api.OtsW4, "", 1, seed}, {api.OtsW4, id[1:], 1, seed}, {api.OtsW4, id + "a", 1, seed},
		{api.OtsW4, id, -1, seed}, {api.OtsW4, id, 1 << 32, seed}, {api.OtsW8, id, math.MinInt, seed}, {api.OtsW8, id, math.MaxInt, seed},
		{api.OtsW8, id, 1, ""}, {api.OtsW8, id, 1, seed[1:]}, {api.OtsW4, id, 1, seed + "a"},
	}
	for i, c := range cases {
		if got, e := ots.Public(c.kind, c.id, c.q, c.seed); e != api.ErrOtsForm || got != (api.Hash{}) {
			t.Errorf("Public %d: error %d", i, e)
		}
		if got, e := ots.Sign(c.kind, c.id, c.q, c.seed, "a"); e != api.ErrOtsForm || got != "" {
			t.Errorf("Sign %d: error %d", i, e)
		}
	}
	if got, e := ots.Sign(api.OtsW4, id, 1, seed, strings.Repeat("a", api.MaxText+1)); e != api.ErrOtsForm || got != "" {
		t.Errorf("a message too long: error %d", e)
	}
}

// P4.3: what is not such.
func TestWrongSignatures(t *testing.T) {
	w4, w8 := wantSign(api.OtsW4, 1, "a"), wantSign(api.OtsW8, 1, "a")
	cases := []struct {
		id   string
		q    int
		msg  string
		sign string
	}{
		{id, 1, "a", ""}, {id, 1, "a", "\x00\x00\x00"}, {id, 1, "a", "\x00\x00\x00\x03"},
		{id, 1, "a", w4[:len(w4)-1]}, {id, 1, "a", w4 + "a"}, {id, 1, "a", w8[:len(w8)-32]}, {id, 1, "a", w8 + w8[:32]},
		{id, 1, "a", "\x00\x00\x00\x04" + w4[4:]}, {id, 1, "a", "\x00\x00\x00\x03" + w8[4:]},
		{id, 1, "a", "\x00\x00\x00\x05" + w4[4:]}, {id, 1, "a", "\x01\x00\x00\x03" + w4[4:]},
		{"", 1, "a", w4}, {id + "a", 1, "a", w4}, {id, -1, "a", w4}, {id, 1 << 32, "a", w8},
		{id, 1, strings.Repeat("a", api.MaxText+1), w4},
	}
	for i, c := range cases {
		if got, e := ots.Candidate(c.id, c.q, c.msg, c.sign); e != api.ErrOtsForm || got != (api.Hash{}) {
			t.Errorf("case %d: error %d", i, e)
		}
	}
}
