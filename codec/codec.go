// Package codec writes and reads, by layer 3, what has several parts. The first error stays, and is asked at the end.
package codec

import (
	"almonry/api"
	"almonry/wire"
)

// Writer holds what was written up to the first error.
type Writer struct {
	out    *wire.Writer
	failed bool
}

// New gives a Writer of nothing.
func New() *Writer {
	return &Writer{out: wire.New()}
}

// Fail says that what is written cannot be.
func (w *Writer) Fail() {
	w.failed = true
}

// Mark writes s without its length.
func (w *Writer) Mark(s string) {
	for i := range len(s) {
		w.Num(int(s[i]), 1)
	}
}

// Num writes a number as so many bytes.
func (w *Writer) Num(x int, size int) {
	w.note(w.out.Num(x, size))
}

// Text writes a text, its length as so many bytes ahead.
func (w *Writer) Text(s string, size int) {
	w.note(w.out.Text(s, size))
}

// Hash writes a hash.
func (w *Writer) Hash(h api.Hash) {
	w.note(w.out.Hash(h))
}

// All tells what was written; false, if something could not be.
func (w *Writer) All() (string, bool) {
	if w.failed {
		return "", false
	}
	return w.out.All(), true
}

// note keeps that there was an error.
func (w *Writer) note(e api.Errno) {
	if e != api.OK {
		w.failed = true
	}
}

// List writes how many things there are, as so many bytes, and each by put.
func List[T any](w *Writer, size int, list []T, put func(T)) {
	w.Num(len(list), size)
	for _, x := range list {
		if w.failed {
			return
		}
		put(x)
	}
}

// Reader stands somewhere in a text; behind an error it tells zeros.
type Reader struct {
	in     *wire.Reader
	failed bool
}

// Open gives a Reader that stands at the begin of s.
func Open(s string) *Reader {
	return &Reader{in: wire.Open(s)}
}

// Fail says that what was read is not what was meant.
func (r *Reader) Fail() {
	r.failed = true
}

// Mark reads s, which must be there.
func (r *Reader) Mark(s string) {
	for i := range len(s) {
		if r.Num(1) != int(s[i]) {
			r.failed = true
		}
	}
}

// Num reads a number of so many bytes.
func (r *Reader) Num(size int) int {
	return keep(r, func() (int, api.Errno) { return r.in.Num(size) })
}

// Text reads a text, its length as so many bytes ahead.
func (r *Reader) Text(size int) string {
	return keep(r, func() (string, api.Errno) { return r.in.Text(size) })
}

// Hash reads a hash.
func (r *Reader) Hash() api.Hash {
	return keep(r, r.in.Hash)
}

// Done says if all could be read, and nothing is left.
func (r *Reader) Done() bool {
	return !r.failed && r.in.Left() == 0
}

// keep reads by get, unless there was an error.
func keep[T any](r *Reader, get func() (T, api.Errno)) T {
	var none T
	if r.failed {
		return none
	}
	x, e := get()
	if e != api.OK {
		r.failed = true
		return none
	}
	return x
}

// Items reads how many things there are, as so many bytes, and each by get.
func Items[T any](r *Reader, size int, get func() T) []T {
	var list []T
	for range r.Num(size) {
		x := get()
		if r.failed {
			return nil
		}
		list = append(list, x)
	}
	return list
}
