package mlog_test

import (
	"crypto/sha256"
	"encoding/hex"
	"strconv"
	"strings"
	"testing"

	"almonry/api"
	"almonry/mlog"
)

// wantRoot is the chapter's Root.
func wantRoot(leaves []string) api.Hash {
	switch len(leaves) {
	case 0:
		return sha256.Sum256(nil)
	case 1:
		return sha256.Sum256([]byte("\x00" + leaves[0]))
	}
	k := 1
	for 2*k < len(leaves) {
		k *= 2
	}
	a, b := wantRoot(leaves[:k]), wantRoot(leaves[k:])
	return sha256.Sum256([]byte("\x01" + string(a[:]) + string(b[:])))
}

// leaves gives n leaves that are not all alike; some are of no bytes.
func leaves(n int) []string {
	all := make([]string, n)
	for i := range all {
		all[i] = strings.Repeat(strconv.Itoa(i), i%5)
	}
	return all
}

// P9.1: leaves, and that they are kept apart from nodes.
func TestLeaf(t *testing.T) {
	for _, s := range []string{"", "a", "\x00", strings.Repeat("long", 1000)} {
		if mlog.Leaf(s) != sha256.Sum256([]byte("\x00"+s)) {
			t.Errorf("Leaf of %d bytes", len(s))
		}
	}
	a, b := mlog.Leaf("a"), mlog.Leaf("b")
	if mlog.Leaf(string(a[:])+string(b[:])) == mlog.Root([]string{"a", "b"}) {
		t.Error("a leaf is a node")
	}
}

// P9.1: roots of each number of leaves.
func TestRoot(t *testing.T) {
	if mlog.Root(nil) != mlog.Root([]string{}) {
		t.Error("Root of none")
	}
	for n := range 70 {
		if mlog.Root(leaves(n)) != wantRoot(leaves(n)) {
			t.Errorf("Root of %d leaves", n)
		}
	}
	if n := 256; mlog.Root(leaves(n)) != wantRoot(leaves(n)) {
		t.Errorf("Root of %d leaves", n)
	}
}

// P9.1: roots that are known (those of the leaves that Certificate Transparency's own tests take).
func TestRootOfKnownLeaves(t *testing.T) {
	all := []string{"", "\x00", "\x10", "\x20\x21", "\x30\x31", "\x40\x41\x42\x43", "\x50\x51\x52\x53\x54\x55\x56\x57", "\x60\x61\x62\x63\x64\x65\x66\x67\x68\x69\x6a\x6b\x6c\x6d\x6e\x6f"}
	for n, want := range map[int]string{
		0: "e3b0c44298fc1c149afbf4c8996fb92427ae41e4649b934ca495991b7852b855",
		1: "6e340b9cffb37a989ca544e6bb780a2c78901d3fb33738768511a30617afa01d",
		2: "fac54203e7cc696cf0dfcb42c92a1d9dbaf70ad9e621f4bd8d98662f00e3c125",
		8: "5dc9da79a70659a9ad559cb701ded9a2ab9d823aad2f4960cfe370eff4604328",
	} {
		h := mlog.Root(all[:n])
		if got := hex.EncodeToString(h[:]); got != want {
			t.Errorf("%d leaves: %s", n, got)
		}
	}
}

// P9.2: a tree goes on from leaf to leaf; Root and Size may be asked at each place.
func TestTree(t *testing.T) {
	tree := mlog.New()
	all := leaves(300)
	for i := range all {
		if tree.Size() != i || tree.Root() != wantRoot(all[:i]) || tree.Root() != tree.Root() {
			t.Fatalf("after %d leaves: size %d", i, tree.Size())
		}
		tree.Append(all[i])
	}
	if tree.Size() != 300 || tree.Root() != wantRoot(all) {
		t.Errorf("size %d", tree.Size())
	}
}

// P9.2: two trees keep apart what was appended to them.
func TestTreesAreApart(t *testing.T) {
	a, b := mlog.New(), mlog.New()
	a.Append("one")
	b.Append("other")
	b.Append("third")
	if a.Root() != wantRoot([]string{"one"}) || b.Root() != wantRoot([]string{"other", "third"}) || a.Size() != 1 || b.Size() != 2 {
		t.Error("one tree's leaves are another's")
	}
}

// R3: methods of a nil tree.
func TestNilTree(t *testing.T) {
	var tree *mlog.Tree
	tree.Append("a")
	if tree.Size() != 0 || tree.Root() != (api.Hash{}) {
		t.Error("a nil tree tells something")
	}
}
