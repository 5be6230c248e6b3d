// Package shelf finds objects by their hashes.
package shelf

import (
	"almonry/api"
	"almonry/rows"
	"almonry/tag"
)

// Shelf holds objects; of several of one hash it holds the first one that came. The zero Shelf is empty.
type Shelf struct {
	row rows.Row[api.Hash, string]
}

// Of gives a shelf of these objects.
func Of(objects []string) *Shelf {
	s := &Shelf{}
	for _, data := range objects {
		s.Put(data)
	}
	return s
}

// Hash tells an object's hash; false, if it is so long that it has none.
func Hash(data string) (api.Hash, bool) {
	h, e := tag.Sum(api.TagObject, data)
	return h, e == api.OK
}

// Put holds an object that has a hash.
func (s *Shelf) Put(data string) {
	if h, ok := Hash(data); ok {
		s.row.Put(h, data)
	}
}

// Get tells the object of a hash.
func (s *Shelf) Get(h api.Hash) (string, bool) {
	return s.row.Get(h)
}

// All tells all objects, in the order in which they came.
func (s *Shelf) All() []string {
	return s.row.All()
}
