package ops

import (
	"slices"

	"almonry/api"
)

// rename takes an entry from one place to another.
func (w *work) rename() (api.Answer, api.Errno) {
	from, e := w.place(w.names)
	if e != api.OK {
		return api.Answer{}, e
	}
	to, e := w.place(w.others)
	if e != api.OK {
		return api.Answer{}, e
	}
	r, ok := w.entry(from.ref, from.name)
	if !ok {
		return api.Answer{}, api.ErrOpsNone
	}
	if w.holds(to) {
		return api.Answer{}, api.ErrOpsExists
	}
	if slices.Contains(to.way, r) {
		return api.Answer{}, api.ErrOpsForm
	}
	if from.ref != to.ref {
		if e := w.room(to.ref); e != api.OK {
			return api.Answer{}, e
		}
	}
	w.leave(from)
	w.enter(to, r)
	return w.stat(r), api.OK
}

// link makes one entry more of a file.
func (w *work) link() (api.Answer, api.Errno) {
	r, e := w.ownFile()
	if e != api.OK {
		return api.Answer{}, e
	}
	to, e := w.place(w.others)
	if e != api.OK {
		return api.Answer{}, e
	}
	if w.holds(to) {
		return api.Answer{}, api.ErrOpsExists
	}
	if w.node(r).Links >= api.MaxLinks {
		return api.Answer{}, api.ErrOpsFull
	}
	if e := w.room(to.ref); e != api.OK {
		return api.Answer{}, e
	}
	w.enter(to, r)
	w.node(r).Links++
	return w.stat(r), api.OK
}
