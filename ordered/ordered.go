// Package ordered keeps tables: lists of things that rise by a key.
package ordered

import (
	"cmp"
	"slices"
)

// Rising says if the keys of a list rise, none twice.
func Rising[V any, K cmp.Ordered](list []V, key func(V) K) bool {
	for i := 1; i < len(list); i++ {
		if key(list[i-1]) >= key(list[i]) {
			return false
		}
	}
	return true
}

// Place tells where a key stands in a table, or would; true, if it is there.
func Place[V any, K cmp.Ordered](table []V, key func(V) K, k K) (int, bool) {
	return slices.BinarySearchFunc(table, k, func(v V, k K) int { return cmp.Compare(key(v), k) })
}

// With tells a new table: with v, in the place of one of its key, if there is one.
func With[V any, K cmp.Ordered](table []V, key func(V) K, v V) []V {
	at, ok := Place(table, key, key(v))
	rest := table[at:]
	if ok {
		rest = table[at+1:]
	}
	return slices.Concat(table[:at], []V{v}, rest)
}

// Without tells a new table: without the one of a key; false, if it is not there.
func Without[V any, K cmp.Ordered](table []V, key func(V) K, k K) ([]V, bool) {
	at, ok := Place(table, key, k)
	if !ok {
		return nil, false
	}
	return slices.Concat(table[:at], table[at+1:]), true
}
