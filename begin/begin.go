// Package begin tells what all logs begin with: the files ahead of the first entry.
package begin

import (
	"almonry/api"
	"almonry/state"
)

// Of tells the tables and the objects of no files; an error, if m may not be.
func Of(m api.Members) ([]api.Hash, []string, api.Errno) {
	empty, e := state.Empty(m)
	if e != api.OK {
		return nil, nil, e
	}
	return state.Build(empty)
}
