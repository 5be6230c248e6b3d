package tag_test

import (
	"crypto/sha256"
	"math"
	"strings"
	"testing"

	"almonry/api"
	"almonry/tag"
)

// P2.1: the bytes that are digested, written out by hand.
func TestSumOfParts(t *testing.T) {
	long := strings.Repeat("x", 0x10203)
	cases := []struct {
		tag   int
		parts []string
		bytes string
	}{
		{api.TagObject, nil, "\x00"},
		{api.TagEntry, []string{""}, "\x01\x00\x00\x00\x00"},
		{api.TagChild, []string{"abc"}, "\x02\x00\x00\x00\x03abc"},
		{api.TagSeed, []string{"a", "", "bc"}, "\x03\x00\x00\x00\x01a\x00\x00\x00\x00\x00\x00\x00\x02bc"},
		{api.TagRecord, []string{"\xff\x00"}, "\x04\x00\x00\x00\x02\xff\x00"},
		{api.TagObject, []string{long[:0x1234]}, "\x00\x00\x00\x12\x34" + long[:0x1234]},
	}
	for _, c := range cases {
		got, e := tag.Sum(c.tag, c.parts...)
		if e != api.OK || got != sha256.Sum256([]byte(c.bytes)) {
			t.Errorf("tag %d of %d parts: error %d", c.tag, len(c.parts), e)
		}
	}
}

// P2.1: what is cut otherwise, or is for another use, has another digest.
func TestSumsAreApart(t *testing.T) {
	seen := map[api.Hash]string{}
	for use := api.TagObject; use <= api.TagRecord; use++ {
		for _, parts := range [][]string{nil, {""}, {"", ""}, {"ab"}, {"a", "b"}, {"ab", ""}, {"", "ab"}} {
			h, e := tag.Sum(use, parts...)
			if e != api.OK {
				t.Fatalf("error %d", e)
			}
			name := strings.Join(parts, "|")
			if other, ok := seen[h]; ok {
				t.Errorf("%q and %q have one digest", name, other)
			}
			seen[h] = name
		}
	}
}

// P2.1: the tags that there are, and no others.
func TestTagsThatAreNone(t *testing.T) {
	for _, use := range []int{-1, api.TagRecord + 1, 255, 256, math.MinInt, math.MaxInt} {
		if h, e := tag.Sum(use, "a"); e != api.ErrTagForm || h != (api.Hash{}) {
			t.Errorf("tag %d: error %d", use, e)
		}
	}
	for use := range 5 {
		if _, e := tag.Sum(use, "a"); e != api.OK {
			t.Errorf("tag %d: error %d", use, e)
		}
	}
}

// P2.1: MaxText bytes in all, in one part or in several, and one more.
func TestLengthOfParts(t *testing.T) {
	full := strings.Repeat("a", api.MaxText)
	if h, e := tag.Sum(api.TagObject, full); e != api.OK || h != sha256.Sum256([]byte("\x00\x00\x01\x00\x00"+full)) {
		t.Errorf("%d bytes: error %d", api.MaxText, e)
	}
	if _, e := tag.Sum(api.TagObject, full[:api.MaxText/2], full[:api.MaxText/2], ""); e != api.OK {
		t.Errorf("%d bytes in two parts: error %d", api.MaxText, e)
	}
	for _, parts := range [][]string{{full + "a"}, {full, "a"}, {"a", full}, {full[:40000], full[:40000]}} {
		if h, e := tag.Sum(api.TagObject, parts...); e != api.ErrTagForm || h != (api.Hash{}) {
			t.Errorf("%d parts, too long: error %d", len(parts), e)
		}
	}
	many := make([]string, 1000)
	if _, e := tag.Sum(api.TagObject, many...); e != api.OK {
		t.Errorf("many empty parts: error %d", e)
	}
}

// R4: the parts that are handed in stay as they are.
func TestPartsStay(t *testing.T) {
	parts := []string{"a", "b", "spare"}
	if _, e := tag.Sum(api.TagObject, parts[:2]...); e != api.OK {
		t.Fatalf("error %d", e)
	}
	if parts[0] != "a" || parts[1] != "b" || parts[2] != "spare" {
		t.Errorf("they are %q", parts)
	}
}
