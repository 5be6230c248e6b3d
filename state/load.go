package state

import (
	"slices"

	"almonry/api"
	"almonry/dir"
	"almonry/ftree"
	"almonry/itab"
	"almonry/rows"
	"almonry/shelf"
)

// Load tells the state of tables with these hashes, or which objects are wanting.
func Load(tables []api.Hash, objects []string) (api.State, []api.Hash, api.Errno) {
	if !tablesMay(len(tables)) {
		return api.State{}, nil, api.ErrStateForm
	}
	l := loader{found: shelf.Of(objects)}
	var all [][]api.Inode
	for _, h := range tables {
		all = append(all, fetch(&l, h, itab.Get))
	}
	if e := l.error(); e != api.OK {
		return api.State{}, l.wanting(), e
	}
	var s api.State
	for _, inodes := range all {
		var nodes []api.Node
		for _, in := range inodes {
			nodes = append(nodes, l.node(in))
		}
		s.Tables = append(s.Tables, nodes)
	}
	if e := l.error(); e != api.OK {
		return api.State{}, l.wanting(), e
	}
	if !May(s) {
		return api.State{}, nil, api.ErrStateForm
	}
	return s, nil, api.OK
}

// loader finds objects, and keeps what it did not find and if something was not as it must be.
type loader struct {
	found *shelf.Shelf
	want  []api.Hash
	wrong bool
}

// error tells how it went: what is wrong comes ahead of what is wanting.
func (l *loader) error() api.Errno {
	switch {
	case l.wrong:
		return api.ErrStateForm
	case len(l.want) > 0:
		return api.ErrStateNone
	}
	return api.OK
}

// wanting tells the hashes that were not found, each once; none, if something is wrong.
func (l *loader) wanting() []api.Hash {
	if l.wrong {
		return nil
	}
	return rows.Unlike(slices.Values(l.want))
}

// fetch tells what get reads in the object of a hash.
func fetch[T any](l *loader, h api.Hash, get func(string) ([]T, api.Errno)) []T {
	object, ok := l.found.Get(h)
	if !ok {
		l.want = append(l.want, h)
		return nil
	}
	list, e := get(object)
	if e != api.OK {
		l.wrong = true
	}
	return list
}

// node tells an inode with what is in it.
func (l *loader) node(in api.Inode) api.Node {
	n := api.Node{Num: in.Num, Kind: in.Kind, Mode: in.Mode, Links: in.Links}
	if in.Kind == api.KindDir {
		n.Ents = fetch(l, in.Root, dir.Get)
	} else {
		n.Data = l.file(in)
	}
	return n
}

// file tells a file's data. Layer 12 is asked again and again with what it wants: so it is handed no more objects
// than the file has, however many there are.
func (l *loader) file(in api.Inode) string {
	var own []string
	for {
		data, want, e := ftree.Load(in.Root, in.Size, own)
		if e == api.OK {
			return data
		}
		if e != api.ErrFtreeNone {
			l.wrong = true
			return ""
		}
		before := len(own)
		for _, h := range want {
			if object, ok := l.found.Get(h); ok {
				own = append(own, object)
			}
		}
		if len(own) == before {
			l.want = append(l.want, want...)
			return ""
		}
	}
}
