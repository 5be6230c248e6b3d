package client

import (
	"iter"
	"slices"

	"almonry/api"
	"almonry/chain"
	"almonry/clone"
	"almonry/msgs"
	"almonry/shelf"
)

// Take takes a message, and tells the next one, or nothing behind a commit.
func (c *Client) Take(msg string) (string, api.Errno) {
	if c == nil {
		return "", api.ErrNil
	}
	switch c.phase {
	case api.PhaseHalted:
		return "", api.ErrClientHalted
	case api.PhaseIdle:
		return "", api.ErrClientReply
	}
	before := len(c.entries)
	answer, e := c.react(msg)
	switch e {
	case api.ErrClientReply:
		c.cutBack(before)
		c.stop(api.PhaseIdle)
	case api.ErrClientSpent:
		c.halt()
	}
	return answer, e
}

// react does what the phase has for a message.
func (c *Client) react(msg string) (string, api.Errno) {
	m, e := msgs.Get(msg)
	if e != api.OK || m.User != c.user {
		return "", api.ErrClientReply
	}
	switch {
	case c.phase == api.PhaseLog && m.Kind == api.MsgEntries:
		return c.takeEntries(m)
	case c.phase == api.PhaseObjects && m.Kind == api.MsgObjects:
		return c.takeObjects(m)
	case c.phase == api.PhaseAppend && m.Kind == api.MsgDone && m.From == len(c.entries)+1:
		return c.commit()
	case c.phase != api.PhaseObjects && m.Kind == api.MsgBusy:
		return c.fetch()
	}
	return "", api.ErrClientReply
}

// fetch asks for the entries that the client does not have.
func (c *Client) fetch() (string, api.Errno) {
	c.stop(api.PhaseLog)
	return c.tell(api.Msg{Kind: api.MsgFetch, From: len(c.entries)})
}

// tell tells a message's bytes.
func (c *Client) tell(m api.Msg) (string, api.Errno) {
	m.User = c.user
	bytes, e := msgs.Put(m)
	if e != api.OK {
		return "", api.ErrClientReply
	}
	return bytes, api.OK
}

// takeEntries takes entries up to what the server says there are.
func (c *Client) takeEntries(m api.Msg) (string, api.Errno) {
	if m.From < c.pin.size || m.From < len(c.entries)+len(m.Entries) ||
		len(m.Entries) == 0 && m.From != len(c.entries) {
		return "", api.ErrClientReply
	}
	before := len(c.entries)
	if !c.extend(slices.Values(m.Entries)) {
		return "", api.ErrClientReply
	}
	if len(c.entries) < m.From {
		return c.fetch()
	}
	answer, e := c.load()
	if e == api.ErrClientSpent {
		c.cutBack(before)
	}
	return answer, e
}

// extend puts entries behind the others, up to the first wrong one; false, if there is one.
func (c *Client) extend(entries iter.Seq[api.Entry]) bool {
	for e := range entries {
		if c.chain.Add(e) != api.OK {
			return false
		}
		c.entries = append(c.entries, clone.Entry(e))
		if len(c.entries) == c.pin.size && c.chain.Log().Root != c.pin.root {
			return false
		}
	}
	return true
}

// cutBack takes the chain back to its first n entries. A chain only goes on, so another one is made.
func (c *Client) cutBack(n int) {
	if len(c.entries) == n {
		return
	}
	kept := c.entries[:n]
	again, e := chain.New(c.keys)
	if e != api.OK {
		return
	}
	c.chain, c.entries = again, nil
	c.extend(slices.Values(kept))
}

// takeObjects takes the objects that were wanted.
func (c *Client) takeObjects(m api.Msg) (string, api.Errno) {
	some := false
	for _, data := range m.Objects {
		if h, ok := shelf.Hash(data); ok && slices.Contains(c.wanted, h) {
			c.known.Put(data)
			some = true
		}
	}
	if !some {
		return "", api.ErrClientReply
	}
	return c.load()
}

// commit does what is to be done once the server has the entry.
func (c *Client) commit() (string, api.Errno) {
	p := c.proposal
	if !c.extend(slices.Values([]api.Entry{p.entry})) {
		return "", api.ErrClientReply
	}
	c.know(p.objects)
	if !c.fasten() {
		return "", api.ErrClientSpent
	}
	c.state, c.answer = p.state, &p.answer
	c.stop(api.PhaseIdle)
	return "", api.OK
}
