package sha_test

import (
	"crypto/sha256"
	"encoding/hex"
	"strings"
	"sync"
	"testing"

	"almonry/api"
	"almonry/sha"
)

// pattern gives n bytes that are not all alike.
func pattern(n int) string {
	b := make([]byte, n)
	for i := range b {
		b[i] = byte(i*7 + i/256 + 3)
	}
	return string(b)
}

// P1.1: the standard's own examples.
func TestSumOfKnownTexts(t *testing.T) {
	known := []struct{ text, sum string }{
		{"", "e3b0c44298fc1c149afbf4c8996fb92427ae41e4649b934ca495991b7852b855"},
		{"abc", "ba7816bf8f01cfea414140de5dae2223b00361a396177a9cb410ff61f20015ad"},
		{"abcdbcdecdefdefgefghfghighijhijkijkljklmklmnlmnomnopnopq", "248d6a61d20638b8e5c026930c3e6039a33ce45964ff2167f6ecedd419db06c1"},
		{strings.Repeat("a", 1000000), "cdc76e5c9914fb9281a1c7e284d73e67f1809a48a497200e046d39ccc7112cd0"},
	}
	for _, k := range known {
		h := sha.Sum(k.text)
		if got := hex.EncodeToString(h[:]); got != k.sum {
			t.Errorf("Sum of %d bytes: %s, not %s", len(k.text), got, k.sum)
		}
	}
}

// P1.1: every length around the edges of one, two and three blocks.
func TestSumOfEachLength(t *testing.T) {
	for n := range 260 {
		s := pattern(n)
		if sha.Sum(s) != sha256.Sum256([]byte(s)) {
			t.Errorf("Sum of %d bytes", n)
		}
	}
	high := strings.Repeat("\xff", 200)
	if sha.Sum(high) != sha256.Sum256([]byte(high)) {
		t.Error("Sum of high bytes")
	}
}

// P1.2: however a text is cut, the digest is that of all of it.
func TestWritesInPieces(t *testing.T) {
	s := pattern(300)
	for _, step := range []int{1, 3, 55, 56, 63, 64, 65, 128, 299, 300} {
		d := sha.New()
		for at := 0; at < len(s); at += step {
			d.Write(s[at:min(at+step, len(s))])
		}
		if d.Sum() != sha256.Sum256([]byte(s)) || d.Len() != len(s) {
			t.Errorf("pieces of %d bytes: %d written", step, d.Len())
		}
	}
}

// P1.2: Sum tells what was written so far, as often as it is asked, and writing goes on.
func TestSumGoesOn(t *testing.T) {
	d := sha.New()
	s := pattern(200)
	for i := range len(s) {
		want := sha256.Sum256([]byte(s[:i]))
		if d.Sum() != want || d.Sum() != want || d.Len() != i {
			t.Fatalf("after %d bytes", i)
		}
		d.Write(s[i : i+1])
		d.Write("")
	}
}

// P1.2: two objects keep apart what they were written.
func TestObjectsAreApart(t *testing.T) {
	a, b := sha.New(), sha.New()
	a.Write("one")
	b.Write("other")
	if a.Sum() != sha.Sum("one") || b.Sum() != sha.Sum("other") || a.Len() != 3 || b.Len() != 5 {
		t.Error("one object's writes are told by another")
	}
	if d := sha.New(); d.Len() != 0 || d.Sum() != sha.Sum("") {
		t.Error("a new object was written something")
	}
}

// R3: methods of a nil pointer.
func TestNilDigest(t *testing.T) {
	var d *sha.Digest
	d.Write("a")
	if d.Len() != 0 || d.Sum() != (api.Hash{}) {
		t.Error("a nil object tells something")
	}
}

// R5: Sum may be called from several goroutines.
func TestSumsAtOneTime(t *testing.T) {
	var all sync.WaitGroup
	for i := range 8 {
		all.Go(func() {
			s := pattern(i * 40)
			for range 50 {
				if sha.Sum(s) != sha256.Sum256([]byte(s)) {
					t.Errorf("Sum of %d bytes", len(s))
				}
			}
		})
	}
	all.Wait()
}
