package client

import (
	"almonry/api"
	"almonry/num"
)

// How long the data of the records are: a number, or a size and a root.
const (
	indexSize = 4
	countSize = 2
	logSize   = countSize + len(api.Hash{})
)

// remember takes up what the journal tells of the time ahead of a crash.
func (c *Client) remember(records []api.Record) {
	for _, r := range records {
		switch {
		case r.Kind == api.RecordIndex && len(r.Data) == indexSize:
			c.key.Next = max(c.key.Next, min(num.Of(r.Data), 1<<(2*c.key.Height)))
		case r.Kind == api.RecordLog && len(r.Data) == logSize:
			c.pin.size = num.Of(r.Data[:countSize])
			copy(c.pin.root[:], r.Data[countSize:])
		}
	}
}

// record writes a record that lasts; false, if it cannot.
func (c *Client) record(kind int, data string) bool {
	return c.journal.Append(api.Record{Kind: kind, Data: data}) == api.OK && c.journal.Sync() == api.OK
}

// spend makes the key's next index one that no client behind a crash will sign by.
func (c *Client) spend() bool {
	return c.record(api.RecordIndex, num.U32(c.key.Next+1))
}

// fasten makes the log as it is the pin.
func (c *Client) fasten() bool {
	log := c.chain.Log()
	if !c.record(api.RecordLog, num.U16(log.Size)+string(log.Root[:])) {
		return false
	}
	c.pin = pin{size: log.Size, root: log.Root}
	return true
}
