// Package way tells how the nodes of a tree of one-time signatures are made, and what a way up comes to.
package way

import (
	"almonry/api"
	"almonry/kinds"
	"almonry/num"
	"almonry/sha"
)

// The numbers that keep leaves apart from the nodes above them.
const (
	leafMark  = 0x8282
	innerMark = 0x8383
)

// Leaf tells node r, a leaf, of the tree called id: it holds a one-time public key.
func Leaf(id string, r int, public api.Hash) api.Hash {
	return sha.Sum(id + num.U32(r) + num.U16(leafMark) + string(public[:]))
}

// Join tells node r, which stands over a left and a right one.
func Join(id string, r int, left api.Hash, right api.Hash) api.Hash {
	return sha.Sum(id + num.U32(r) + num.U16(innerMark) + string(left[:]) + string(right[:]))
}

// Root tells the root that node r makes with the nodes beside its way; these stand one behind the other.
func Root(id string, r int, node api.Hash, beside string) api.Hash {
	for ; r > 1; r /= 2 {
		var other api.Hash
		copy(other[:], beside)
		beside = beside[kinds.HashSize:]
		if r%2 == 0 {
			node = Join(id, r/2, node, other)
		} else {
			node = Join(id, r/2, other, node)
		}
	}
	return node
}
