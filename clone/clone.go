// Package clone copies things with all that is in them, so that no two share memory.
package clone

import (
	"slices"

	"almonry/api"
)

// each copies a list, each thing in it by one.
func each[T any](list []T, one func(T) T) []T {
	if list == nil {
		return nil
	}
	all := make([]T, 0, len(list))
	for _, x := range list {
		all = append(all, one(x))
	}
	return all
}

// Members copies members.
func Members(m api.Members) api.Members {
	m.Groups = each(m.Groups, slices.Clone)
	return m
}

// Keys copies keys.
func Keys(k api.Keys) api.Keys {
	k.Members = Members(k.Members)
	k.Publics = slices.Clone(k.Publics)
	return k
}

// State copies a state.
func State(s api.State) api.State {
	s.Tables = each(s.Tables, func(table []api.Node) []api.Node { return each(table, node) })
	return s
}

// node copies a node.
func node(n api.Node) api.Node {
	n.Ents = slices.Clone(n.Ents)
	return n
}

// Entry copies an entry.
func Entry(e api.Entry) api.Entry {
	e.Vec = slices.Clone(e.Vec)
	e.Tables = slices.Clone(e.Tables)
	return e
}

// Entries copies entries.
func Entries(es []api.Entry) []api.Entry {
	return each(es, Entry)
}

// Answer copies an answer.
func Answer(a api.Answer) api.Answer {
	a.Names = slices.Clone(a.Names)
	return a
}

// Answers copies answers.
func Answers(as []api.Answer) []api.Answer {
	return each(as, Answer)
}
