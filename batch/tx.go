package batch

import (
	"slices"

	"carrefour/api"
	"carrefour/shard"
)

const (
	none     = -1 // no queue
	firstTag = 1
)

// Tx is what a client wants done at once: messages, and tags to be settled, all
// of one queue and one key.
type Tx struct {
	pub   int
	queue int // this and key, only while there is a message or a tag
	key   string
	put   []api.Msg
	tags  []int
}

// New is a transaction of the client pub, with nothing there yet.
func New(pub int) *Tx {
	if pub < 0 || pub >= api.MaxClients {
		return nil
	}
	return &Tx{pub: pub}
}

// Publish adds a message.
func (t *Tx) Publish(queue int, key string, seq int, body string) int {
	if t == nil {
		return api.ErrState
	}
	m := api.Msg{Pub: t.pub, Seq: seq, Key: key, Body: body}
	switch {
	case !mayBe(queue, key) || !shard.MayMsg(m):
		return api.ErrArg
	case t.isElsewhere(queue, key):
		return api.NotYet
	case len(t.put) == api.MaxBatch:
		return api.ErrFull
	case len(t.put) > 0 && seq != t.put[len(t.put)-1].Seq+1:
		return api.ErrArg
	}
	t.queue, t.key = queue, key
	t.put = append(t.put, m)
	return api.OK
}

// Ack adds a tag.
func (t *Tx) Ack(queue int, key string, tag int) int {
	if t == nil {
		return api.ErrState
	}
	switch {
	case !mayBe(queue, key) || tag < firstTag || slices.Contains(t.tags, tag):
		return api.ErrArg
	case t.isElsewhere(queue, key):
		return api.NotYet
	case len(t.tags) == api.MaxBatch:
		return api.ErrFull
	}
	t.queue, t.key = queue, key
	t.tags = append(t.tags, tag)
	return api.OK
}

// mayBe tells whether there may be such a queue, and such a key.
func mayBe(queue int, key string) bool {
	return queue >= 0 && queue < api.MaxQueues && len(key) >= 1 && len(key) <= api.MaxKey
}

// isElsewhere tells whether what is there is of another queue or key.
func (t *Tx) isElsewhere(queue int, key string) bool {
	return t.Len() > 0 && (t.queue != queue || t.key != key)
}

// Take hands out what is there, and leaves nothing.
func (t *Tx) Take() (int, []api.Msg, []int) {
	if t.Len() == 0 {
		return none, nil, nil
	}
	queue, put, tags := t.queue, t.put, t.tags
	*t = Tx{pub: t.pub}
	return queue, put, tags
}

// Len is how many messages and tags are there.
func (t *Tx) Len() int {
	if t == nil {
		return 0
	}
	return len(t.put) + len(t.tags)
}
