// Package sha makes SHA-256 digests (FIPS 180-4): see DOC.md, chapter 1.
package sha

import (
	"almonry/api"
)

// blockSize is how many bytes are mixed at once; lengthAt is where in the last block the length stands.
const (
	blockSize = 64
	lengthAt  = blockSize - 8
)

// Digest holds what was written: the words that the whole blocks came to, and the bytes behind them.
// The first words are set by the first Write, so that a Digest that nobody set up is a fresh one too.
type Digest struct {
	words  [8]uint32
	rest   [blockSize]byte
	length int
}

// New gives a Digest that was written nothing.
func New() *Digest {
	return &Digest{}
}

// Write puts s behind what was written.
func (d *Digest) Write(s string) {
	if d == nil || s == "" {
		return
	}
	if d.length == 0 {
		d.words = firstWords()
	}
	for s != "" {
		at := d.length % blockSize
		n := copy(d.rest[at:], s)
		d.length += n
		s = s[n:]
		if at+n == blockSize {
			mix(&d.words, &d.rest)
		}
	}
}

// Sum tells the digest of all that was written; it works on a copy, so that writing can go on.
func (d *Digest) Sum() api.Hash {
	if d == nil {
		return api.Hash{}
	}
	end := *d
	return end.finish()
}

// Len tells how many bytes were written.
func (d *Digest) Len() int {
	if d == nil {
		return 0
	}
	return d.length
}

// Sum tells the digest of s.
func Sum(s string) api.Hash {
	var d Digest
	d.Write(s)
	return d.finish()
}

// finish mixes the padding (a bit 1, bits 0, the length in bits) and tells the words as bytes.
func (d *Digest) finish() api.Hash {
	if d.length == 0 {
		d.words = firstWords()
	}
	at := d.length % blockSize
	d.rest[at] = 0x80
	clear(d.rest[at+1:])
	if at >= lengthAt {
		mix(&d.words, &d.rest)
		clear(d.rest[:])
	}
	bits := uint64(d.length) << 3
	for i := range 8 {
		d.rest[lengthAt+i] = byte(bits >> (56 - 8*i))
	}
	mix(&d.words, &d.rest)
	var h api.Hash
	for i, word := range d.words {
		h[4*i] = byte(word >> 24)
		h[4*i+1] = byte(word >> 16)
		h[4*i+2] = byte(word >> 8)
		h[4*i+3] = byte(word)
	}
	return h
}
