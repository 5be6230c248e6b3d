package way_test

import (
	"crypto/sha256"
	"testing"

	"almonry/api"
	"almonry/way"
)

const id = "0123456789abcdef"

func TestNodes(t *testing.T) {
	a, b := api.Hash{1}, api.Hash{2}
	if way.Leaf(id, 5, a) != sha256.Sum256([]byte(id+"\x00\x00\x00\x05\x82\x82"+string(a[:]))) {
		t.Error("Leaf")
	}
	if way.Join(id, 2, a, b) != sha256.Sum256([]byte(id+"\x00\x00\x00\x02\x83\x83"+string(a[:])+string(b[:]))) {
		t.Error("Join")
	}
}

func TestRoot(t *testing.T) {
	l := []api.Hash{{4}, {5}, {6}, {7}}
	two, three := way.Join(id, 2, l[0], l[1]), way.Join(id, 3, l[2], l[3])
	root := way.Join(id, 1, two, three)
	if way.Root(id, 4, l[0], string(l[1][:])+string(three[:])) != root || way.Root(id, 7, l[3], string(l[2][:])+string(two[:])) != root {
		t.Error("ways of two nodes")
	}
	if way.Root(id, 1, root, "") != root {
		t.Error("a way of none")
	}
}
