// Package kinds tells how the kinds of signatures are made and how long they are.
package kinds

import (
	"almonry/api"
)

// Sizes that all kinds share: of a name, a seed, a hash, a number, a tree's public key.
const (
	IdSize     = 16
	SeedSize   = 32
	HashSize   = 32
	NumberSize = 4
	PublicSize = 2*NumberSize + IdSize + HashSize
)

// lowType is the type of a tree of height 0, were there one; trees of the standard's height have its number.
const (
	lowType      = 0xf0000000
	standardType = 5
)

// Ots is a kind of one-time signatures: bits of a digit, how many digits, how far their sum is shifted.
type Ots struct {
	Bits  int
	Parts int
	Shift int
}

// OtsOf tells how a kind works; false, if it is none.
func OtsOf(kind int) (Ots, bool) {
	switch kind {
	case api.OtsW4:
		return Ots{Bits: 4, Parts: 67, Shift: 4}, true
	case api.OtsW8:
		return Ots{Bits: 8, Parts: 34, Shift: 0}, true
	}
	return Ots{}, false
}

// Steps tells how many steps a whole chain has: the greatest digit.
func (o Ots) Steps() int {
	return 1<<o.Bits - 1
}

// Length tells how many bytes a one-time signature has: the kind, C, the parts.
func (o Ots) Length() int {
	return NumberSize + HashSize + o.Parts*HashSize
}

// HeightMay says if trees may be so high.
func HeightMay(height int) bool {
	return height >= 1 && height <= api.MaxHeight
}

// TypeOf tells the type of trees of a height that may be.
func TypeOf(height int) int {
	if height == api.MaxHeight {
		return standardType
	}
	return lowType + height
}

// HeightOf tells how high the trees of a type are; false, if there is no such type.
func HeightOf(kind int) (int, bool) {
	for height := 1; height <= api.MaxHeight; height++ {
		if TypeOf(height) == kind {
			return height, true
		}
	}
	return 0, false
}

// TreeLength tells how many bytes a tree's signature has: q, the one-time signature, the type, the way's nodes.
func TreeLength(o Ots, height int) int {
	return 2*NumberSize + o.Length() + height*HashSize
}
