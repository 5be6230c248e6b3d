// Package rows keeps rows of unlike things, in the order in which they came first.
package rows

import (
	"iter"
	"slices"
)

// Row holds things by their keys; of several of one key it holds the first one. The zero Row is empty.
type Row[K comparable, V any] struct {
	places map[K]int
	all    []V
}

// Put puts v behind the others; false, if something of its key is there already.
func (r *Row[K, V]) Put(k K, v V) bool {
	if _, ok := r.places[k]; ok {
		return false
	}
	if r.places == nil {
		r.places = map[K]int{}
	}
	r.places[k] = len(r.all)
	r.all = append(r.all, v)
	return true
}

// Get tells what is there of a key.
func (r *Row[K, V]) Get(k K) (V, bool) {
	at, ok := r.places[k]
	if !ok {
		var none V
		return none, false
	}
	return r.all[at], true
}

// All tells all of them.
func (r *Row[K, V]) All() []V {
	return slices.Clone(r.all)
}

// Unlike gathers a sequence's things, each once.
func Unlike[T comparable](things iter.Seq[T]) []T {
	var r Row[T, T]
	for x := range things {
		r.Put(x, x)
	}
	return r.all
}
