package client

import (
	"almonry/api"
	"almonry/entry"
	"almonry/hss"
	"almonry/ops"
	"almonry/shelf"
	"almonry/state"
)

// load does the call over the files as of the last entry, or asks for objects of theirs that are wanting.
func (c *Client) load() (string, api.Errno) {
	now, want, e := state.Load(c.tables(), c.known.All())
	if e == api.ErrStateNone {
		c.phase = api.PhaseObjects
		c.wanted = want[:min(len(want), api.MaxWant)]
		return c.tell(api.Msg{Kind: api.MsgWant, Wants: c.wanted})
	}
	if e != api.OK {
		return "", api.ErrClientReply
	}
	then, answer, e := ops.Do(c.keys.Members, now, c.user, c.call)
	if e != api.OK {
		return "", api.ErrClientReply
	}
	bytes, e := c.propose(then, answer)
	if e == api.OK {
		c.state = now
	}
	return bytes, e
}

// tables tells those of the last entry, or of the begin.
func (c *Client) tables() []api.Hash {
	if len(c.entries) == 0 {
		return c.begin
	}
	return c.entries[len(c.entries)-1].Tables
}

// propose signs the entry that brings the files to then, and hands it to the server.
func (c *Client) propose(then api.State, answer api.Answer) (string, api.Errno) {
	tables, objects, e := state.Build(then)
	if e != api.OK {
		return "", api.ErrClientReply
	}
	next, e := c.chain.Next(c.user, tables)
	if e != api.OK {
		return "", api.ErrClientReply
	}
	// The index is spent on the disk ahead of any use of it: behind a crash it could sign another message.
	if hss.Left(c.key) == 0 || !c.spend() {
		return "", api.ErrClientSpent
	}
	signed, key, e := entry.Sign(next, c.key)
	if e != api.OK {
		return "", api.ErrClientReply
	}
	c.key = key
	bytes, e := c.tell(api.Msg{Kind: api.MsgAppend, Entries: []api.Entry{signed}, Objects: c.unknown(objects)})
	if e != api.OK {
		return "", e
	}
	c.phase = api.PhaseAppend
	c.proposal = proposal{entry: signed, objects: objects, state: then, answer: answer}
	return bytes, api.OK
}

// unknown tells those objects that the client does not know.
func (c *Client) unknown(objects []string) []string {
	var all []string
	for _, data := range objects {
		h, _ := shelf.Hash(data)
		if _, ok := c.known.Get(h); !ok {
			all = append(all, data)
		}
	}
	return all
}
