package ops

import (
	"iter"
	"slices"

	"almonry/api"
	"almonry/dir"
	"almonry/members"
	"almonry/state"
)

// root tells the node that all paths begin at.
func root() api.Ref {
	return api.Ref{Owner: 0, Num: 1}
}

// place is where a path's last name stands, or would: the directory, the ones that are gone to come there (it is
// the last one), the name.
type place struct {
	ref  api.Ref
	way  []api.Ref
	name string
}

// node tells the node of a ref; nil, if there is none.
func (w *work) node(r api.Ref) *api.Node {
	if r.Owner < 0 || r.Owner >= len(w.state.Tables) {
		return nil
	}
	table := w.state.Tables[r.Owner]
	for i := range table {
		if table[i].Num == r.Num {
			return &table[i]
		}
	}
	return nil
}

// mayTurn says if the user may change a node.
func (w *work) mayTurn(r api.Ref) bool {
	return members.In(w.members, w.user, r.Owner)
}

// mayRead says if the user may read a node that there is.
func (w *work) mayRead(r api.Ref) bool {
	return w.mayTurn(r) || w.node(r).Mode == api.ModeRead
}

// walk goes names from the root, and tells all nodes that it comes to.
func (w *work) walk(names iter.Seq[string]) ([]api.Ref, api.Errno) {
	way := []api.Ref{root()}
	for name := range names {
		next, e := w.step(way[len(way)-1], name)
		if e != api.OK {
			return nil, e
		}
		way = append(way, next)
	}
	return way, api.OK
}

// step goes one name from a node.
func (w *work) step(at api.Ref, name string) (api.Ref, api.Errno) {
	if w.node(at).Kind != api.KindDir {
		return api.Ref{}, api.ErrOpsNotDir
	}
	if !w.mayRead(at) {
		return api.Ref{}, api.ErrOpsPerm
	}
	next, ok := w.entry(at, name)
	if !ok {
		return api.Ref{}, api.ErrOpsNone
	}
	return next, api.OK
}

// entry tells the node that a directory's entry names; false, if there is no such entry, or no such node.
func (w *work) entry(at api.Ref, name string) (api.Ref, bool) {
	r, ok := dir.Find(w.node(at).Ents, name)
	if !ok || w.node(r) == nil {
		return api.Ref{}, false
	}
	return r, true
}

// target goes the call's path.
func (w *work) target() (api.Ref, api.Errno) {
	way, e := w.walk(slices.Values(w.names))
	if e != api.OK {
		return api.Ref{}, e
	}
	return way[len(way)-1], api.OK
}

// file goes the call's path to what must be a file.
func (w *work) file() (api.Ref, api.Errno) {
	r, e := w.target()
	if e == api.OK && w.node(r).Kind == api.KindDir {
		return api.Ref{}, api.ErrOpsDir
	}
	return r, e
}

// ownFile goes the call's path to what must be a file that the user may turn.
func (w *work) ownFile() (api.Ref, api.Errno) {
	r, e := w.file()
	if e == api.OK && !w.mayTurn(r) {
		return api.Ref{}, api.ErrOpsPerm
	}
	return r, e
}

// place goes to the place of a path's last name.
func (w *work) place(names []string) (place, api.Errno) {
	if len(names) == 0 {
		return place{}, api.ErrOpsName
	}
	last := len(names) - 1
	way, e := w.walk(slices.Values(names[:last]))
	if e != api.OK {
		return place{}, e
	}
	p := place{ref: way[last], way: way, name: names[last]}
	if w.node(p.ref).Kind != api.KindDir {
		return place{}, api.ErrOpsNotDir
	}
	if !w.mayTurn(p.ref) {
		return place{}, api.ErrOpsPerm
	}
	return p, api.OK
}

// holds says if a place's name is there already, whatever it names.
func (w *work) holds(p place) bool {
	_, ok := dir.Find(w.node(p.ref).Ents, p.name)
	return ok
}

// room says if a directory has room for one entry more.
func (w *work) room(r api.Ref) api.Errno {
	if len(w.node(r).Ents) >= api.MaxEntries {
		return api.ErrOpsFull
	}
	if state.Used(w.state, r.Owner)+api.EntryCost > api.MaxQuota {
		return api.ErrOpsQuota
	}
	return api.OK
}

// stat tells what is to be told of a node.
func (w *work) stat(r api.Ref) api.Answer {
	n := w.node(r)
	return api.Answer{Stat: api.Stat{Ref: r, Kind: n.Kind, Mode: n.Mode, Links: n.Links, Size: len(n.Data)}}
}
