package shard

import (
	"slices"

	"carrefour/api"
	"carrefour/own"
	"carrefour/point"
	"carrefour/ring"
)

// Put is s with the batch l behind all that is ready.
func Put(s api.Shard, l []api.Msg) (api.Shard, int) {
	code := mayPut(s, l)
	s = own.Shard(s)
	if code != api.OK {
		return s, code
	}
	s.Ready = append(s.Ready, l...)
	s.Marks = marked(s.Marks, l[len(l)-1])
	return s, api.OK
}

// mayPut is why l may not be put in s.
func mayPut(s api.Shard, l []api.Msg) int {
	if !May(s) || !mayBatch(l) {
		return api.ErrArg
	}
	first, end := l[0], l[len(l)-1]
	last := Last(s, first.Pub, first.Key)
	switch {
	case last >= end.Seq:
		return api.ErrDup
	case last >= first.Seq:
		return api.ErrArg
	case s.Frozen:
		return api.ErrFrozen
	case isFull(s, l):
		return api.ErrFull
	}
	return api.OK
}

// isFull tells whether s has no room for l, or for the mark of a Pub and Key
// that it has none of.
func isFull(s api.Shard, l []api.Msg) bool {
	if len(s.Ready)+len(s.Held)+len(l) > api.MaxReady {
		return true
	}
	return len(s.Marks) == api.MaxMarks && find(s.Marks, l[0].Pub, l[0].Key) == none
}

// mayBatch tells whether l may be put somewhere: new messages, each the next one
// of the one ahead.
func mayBatch(l []api.Msg) bool {
	if len(l) == 0 || len(l) > api.MaxBatch {
		return false
	}
	k := 0
more:
	if k == len(l) {
		return true
	}
	if MayMsg(l[k]) && !l[k].Again && l[k].Pub == l[0].Pub && l[k].Key == l[0].Key && l[k].Seq == l[0].Seq+k {
		k++
		goto more
	}
	return false
}

// marked is l, itself changed, with m as the last one that was taken.
func marked(l []api.Mark, m api.Msg) []api.Mark {
	k := find(l, m.Pub, m.Key)
	if k == none {
		return append(l, api.Mark{Pub: m.Pub, Key: m.Key, Seq: m.Seq})
	}
	l[k].Seq = m.Seq
	return l
}

// Get is s with the first message held whose key is free, and that one.
func Get(s api.Shard) (api.Shard, api.Held, int) {
	k, code := first(s)
	s = own.Shard(s)
	if code != api.OK {
		return s, api.Held{}, code
	}
	h := api.Held{Tag: s.Next, M: s.Ready[k]}
	s.Next++
	s.Ready = slices.Delete(s.Ready, k, k+1)
	s.Held = append(s.Held, h)
	return s, h, api.OK
}

// first is the place in Ready of what may be handed out.
func first(s api.Shard) (int, int) {
	if !May(s) {
		return none, api.ErrArg
	}
	if s.Frozen {
		return none, api.ErrFrozen
	}
	k := 0
more:
	if k == len(s.Ready) {
		return none, api.ErrNone
	}
	if holds(s.Held, s.Ready[k].Key) {
		k++
		goto more
	}
	if s.Next == lastNext {
		return none, api.ErrFull
	}
	return k, api.OK
}

// Ack is s without what is held under tag.
func Ack(s api.Shard, tag int) (api.Shard, int) {
	s, _, code := settle(s, tag)
	return s, code
}

// Nack is s with what is held under tag put back, ahead of all that is ready.
func Nack(s api.Shard, tag int) (api.Shard, int) {
	s, m, code := settle(s, tag)
	if code != api.OK {
		return s, code
	}
	m.Again = true
	s.Ready = slices.Insert(s.Ready, 0, m)
	return s, api.OK
}

// settle is s without what is held under tag, and that message.
func settle(s api.Shard, tag int) (api.Shard, api.Msg, int) {
	k, code := under(s, tag)
	s = own.Shard(s)
	if code != api.OK {
		return s, api.Msg{}, code
	}
	m := s.Held[k].M
	s.Held = slices.Delete(s.Held, k, k+1)
	return s, m, api.OK
}

// under is the place in Held of what has that tag.
func under(s api.Shard, tag int) (int, int) {
	if !May(s) {
		return none, api.ErrArg
	}
	k := 0
more:
	if k == len(s.Held) {
		return none, api.ErrNone
	}
	if s.Held[k].Tag != tag {
		k++
		goto more
	}
	return k, api.OK
}

// Freeze is s, frozen.
func Freeze(s api.Shard) (api.Shard, int) { return turn(s, true) }

// Thaw is s, not frozen any more.
func Thaw(s api.Shard) (api.Shard, int) { return turn(s, false) }

func turn(s api.Shard, frozen bool) (api.Shard, int) {
	if !May(s) {
		return own.Shard(s), api.ErrArg
	}
	s = own.Shard(s)
	if s.Frozen == frozen {
		return s, api.ErrState
	}
	s.Frozen = frozen
	return s, api.OK
}

// Part is what of s has keys whose points are k's, of those arcs.
func Part(s api.Shard, l []api.Arc, k int) (api.Shard, int) {
	if !May(s) || !ring.May(l) {
		return own.Shard(s), api.ErrArg
	}
	if !s.Frozen || len(s.Held) > 0 {
		return own.Shard(s), api.ErrState
	}
	part := api.Shard{Next: s.Next}
	for _, m := range s.Ready {
		if owns(l, k, m.Key) {
			part.Ready = append(part.Ready, m)
		}
	}
	for _, m := range s.Marks {
		if owns(l, k, m.Key) {
			part.Marks = append(part.Marks, m)
		}
	}
	return part, api.OK
}

// owns tells whether k has key's point.
func owns(l []api.Arc, k int, key string) bool {
	return ring.Owner(l, point.Of(key)) == k
}
