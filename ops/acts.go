package ops

import (
	"strings"

	"almonry/api"
	"almonry/dir"
	"almonry/members"
	"almonry/ordered"
	"almonry/state"
)

// lookup tells of the node of a path.
func (w *work) lookup() (api.Answer, api.Errno) {
	r, e := w.target()
	if e != api.OK {
		return api.Answer{}, e
	}
	return w.stat(r), api.OK
}

// create makes a new node and its entry.
func (w *work) create(kind int) (api.Answer, api.Errno) {
	p, e := w.place(w.names)
	if e != api.OK {
		return api.Answer{}, e
	}
	owner := w.call.As
	if !members.In(w.members, w.user, owner) {
		return api.Answer{}, api.ErrOpsPerm
	}
	if w.holds(p) {
		return api.Answer{}, api.ErrOpsExists
	}
	if len(w.state.Tables[owner]) >= api.MaxInodes {
		return api.Answer{}, api.ErrOpsFull
	}
	if e := w.room(p.ref); e != api.OK {
		return api.Answer{}, e
	}
	r := api.Ref{Owner: owner, Num: w.freeNum(owner)}
	node := api.Node{Num: r.Num, Kind: kind, Mode: api.ModeRead, Links: 1}
	w.state.Tables[owner] = ordered.With(w.state.Tables[owner], numOf, node)
	w.enter(p, r)
	return w.stat(r), api.OK
}

// read tells a piece of a file.
func (w *work) read() (api.Answer, api.Errno) {
	r, e := w.file()
	if e != api.OK {
		return api.Answer{}, e
	}
	if !w.mayRead(r) {
		return api.Answer{}, api.ErrOpsPerm
	}
	data, at := w.node(r).Data, w.call.At
	if at < 0 || w.call.N < 0 || at > len(data) {
		return api.Answer{}, api.ErrOpsForm
	}
	return api.Answer{Data: strings.Clone(data[at : at+min(w.call.N, len(data)-at)])}, api.OK
}

// write lays data over a file's.
func (w *work) write() (api.Answer, api.Errno) {
	r, e := w.ownFile()
	if e != api.OK {
		return api.Answer{}, e
	}
	old, at := w.node(r).Data, w.call.At
	if at < 0 || at > len(old) {
		return api.Answer{}, api.ErrOpsForm
	}
	end := at + len(w.call.Data)
	size := max(len(old), end)
	if size > api.MaxFile {
		return api.Answer{}, api.ErrOpsFull
	}
	if state.Used(w.state, r.Owner)-len(old)+size > api.MaxQuota {
		return api.Answer{}, api.ErrOpsQuota
	}
	w.node(r).Data = old[:at] + w.call.Data + old[min(end, len(old)):]
	return w.stat(r), api.OK
}

// truncate leaves a file's first bytes.
func (w *work) truncate() (api.Answer, api.Errno) {
	r, e := w.ownFile()
	if e != api.OK {
		return api.Answer{}, e
	}
	n := w.node(r)
	if w.call.N < 0 || w.call.N > len(n.Data) {
		return api.Answer{}, api.ErrOpsForm
	}
	n.Data = strings.Clone(n.Data[:w.call.N])
	return w.stat(r), api.OK
}

// unlink takes a file's entry away.
func (w *work) unlink() (api.Answer, api.Errno) {
	p, e := w.place(w.names)
	if e != api.OK {
		return api.Answer{}, e
	}
	r, ok := w.entry(p.ref, p.name)
	if !ok {
		return api.Answer{}, api.ErrOpsNone
	}
	if w.node(r).Kind == api.KindDir {
		return api.Answer{}, api.ErrOpsDir
	}
	if !w.mayTurn(r) {
		return api.Answer{}, api.ErrOpsPerm
	}
	w.drop(p, r)
	return api.Answer{}, api.OK
}

// rmdir takes an empty directory's entry away.
func (w *work) rmdir() (api.Answer, api.Errno) {
	p, e := w.place(w.names)
	if e != api.OK {
		return api.Answer{}, e
	}
	r, ok := w.entry(p.ref, p.name)
	if !ok {
		return api.Answer{}, api.ErrOpsNone
	}
	if w.node(r).Kind != api.KindDir {
		return api.Answer{}, api.ErrOpsNotDir
	}
	if r == root() || !w.mayTurn(r) {
		return api.Answer{}, api.ErrOpsPerm
	}
	if len(w.node(r).Ents) > 0 {
		return api.Answer{}, api.ErrOpsEmpty
	}
	w.drop(p, r)
	return api.Answer{}, api.OK
}

// readdir tells a directory's names.
func (w *work) readdir() (api.Answer, api.Errno) {
	r, e := w.target()
	if e != api.OK {
		return api.Answer{}, e
	}
	if w.node(r).Kind != api.KindDir {
		return api.Answer{}, api.ErrOpsNotDir
	}
	if !w.mayRead(r) {
		return api.Answer{}, api.ErrOpsPerm
	}
	var names []string
	for _, e := range w.node(r).Ents {
		names = append(names, e.Name)
	}
	return api.Answer{Names: names}, api.OK
}

// chmod says who may read a node.
func (w *work) chmod() (api.Answer, api.Errno) {
	r, e := w.target()
	if e != api.OK {
		return api.Answer{}, e
	}
	if !w.mayTurn(r) {
		return api.Answer{}, api.ErrOpsPerm
	}
	if w.call.N != 0 && w.call.N != api.ModeRead {
		return api.Answer{}, api.ErrOpsForm
	}
	w.node(r).Mode = w.call.N
	return w.stat(r), api.OK
}

// numOf tells the key that nodes are ordered by.
func numOf(n api.Node) int {
	return n.Num
}

// freeNum tells the least number that no node of a table has.
func (w *work) freeNum(owner int) int {
	num := 1
	for _, n := range w.state.Tables[owner] {
		if n.Num != num {
			break
		}
		num++
	}
	return num
}

// enter puts an entry at a place that has room for it.
func (w *work) enter(p place, r api.Ref) {
	if es, e := dir.Set(w.node(p.ref).Ents, p.name, r); e == api.OK {
		w.node(p.ref).Ents = es
	}
}

// leave takes the entry at a place away.
func (w *work) leave(p place) {
	if es, ok := dir.Remove(w.node(p.ref).Ents, p.name); ok {
		w.node(p.ref).Ents = es
	}
}

// drop takes the entry at a place away, and its node, if no other entry was made of it.
func (w *work) drop(p place, r api.Ref) {
	w.leave(p)
	w.node(r).Links--
	if w.node(r).Links > 0 {
		return
	}
	if table, ok := ordered.Without(w.state.Tables[r.Owner], numOf, r.Num); ok {
		w.state.Tables[r.Owner] = table
	}
}
