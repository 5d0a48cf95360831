package batch

import (
	"math"
	"slices"
	"strings"
	"testing"

	"carrefour/api"
	"carrefour/shard"
)

func msg(pub, seq int, key string) api.Msg {
	return api.Msg{Pub: pub, Seq: seq, Key: key, Body: key + "!"}
}

// msgs are many messages of pub and key, from a Seq on.
func msgs(pub int, key string, from, many int) []api.Msg {
	var l []api.Msg
	for i := range many {
		l = append(l, msg(pub, from+i, key))
	}
	return l
}

// held is what is held under that tag: a message of publisher 3, and a key of its own.
func held(tag int) api.Held {
	return api.Held{Tag: tag, M: msg(3, 1, "held "+string(rune('a'+tag)))}
}

// some is a shard that has that many messages ready, all of publisher 1 and "a",
// their Seqs from 1 on, and what is held under those tags.
func some(ready int, tags ...int) api.Shard {
	s := api.Shard{Next: 100, Ready: msgs(1, "a", 1, ready)}
	if ready > 0 {
		s.Marks = append(s.Marks, api.Mark{Pub: 1, Key: "a", Seq: ready})
	}
	for _, tag := range tags {
		h := held(tag)
		s.Held = append(s.Held, h)
		s.Marks = append(s.Marks, api.Mark{Pub: h.M.Pub, Key: h.M.Key, Seq: h.M.Seq})
	}
	return s
}

// changed is a copy of s that change was done to.
func changed(s api.Shard, change func(s *api.Shard)) api.Shard {
	s = copyOf(s)
	change(&s)
	return s
}

func copyOf(s api.Shard) api.Shard {
	return api.Shard{Frozen: s.Frozen, Next: s.Next, Ready: slices.Clone(s.Ready), Held: slices.Clone(s.Held), Marks: slices.Clone(s.Marks)}
}

func frozen(s api.Shard) api.Shard {
	return changed(s, func(s *api.Shard) { s.Frozen = true })
}

// marked is s with that many marks of what was settled more.
func marked(s api.Shard, many int) api.Shard {
	return changed(s, func(s *api.Shard) {
		for i := range many {
			s.Marks = append(s.Marks, api.Mark{Pub: 0, Key: "gone " + string(rune('0'+i)), Seq: 1})
		}
	})
}

// good are shards that may be, with one of each reason why a Put may fail.
func good() []api.Shard {
	l := []api.Shard{
		shard.New(), some(3), some(0, 1), some(3, 1, 2, 3), some(9, 2, 5, 9, 14),
		some(48), some(45, 1, 2, 3), some(40, 1, 2, 3, 5, 6, 7, 8, 9),
		marked(some(3, 1, 2, 3), 60), marked(some(3, 1, 2, 3), 59),
	}
	for _, s := range l {
		l = append(l, frozen(s))
	}
	return l
}

// bad are shards that may not be.
func bad() []api.Shard {
	return []api.Shard{
		{}, some(49), some(46, 1, 2, 3), marked(some(3, 1, 2, 3), 61),
		changed(some(3, 1, 2, 3), func(s *api.Shard) { s.Next = 3 }),
		changed(some(3, 1, 2, 3), func(s *api.Shard) { s.Held[2].Tag = 2 }),
		changed(some(3, 1, 2, 3), func(s *api.Shard) { s.Held[2].M.Key = s.Held[1].M.Key }),
		changed(some(3, 1, 2, 3), func(s *api.Shard) { s.Ready[0].Seq = 0 }),
		changed(some(3, 1, 2, 3), func(s *api.Shard) { s.Marks = nil }),
	}
}

// puts are batches: none, new ones, such as came already, and such as may not be.
func puts() [][]api.Msg {
	wide := msgs(1, "a", 50, 2)
	wide[1].Seq++
	mixed := msgs(1, "a", 50, 2)
	mixed[1].Key = "b"
	others := msgs(1, "a", 50, 2)
	others[1].Pub = 2
	flagged := msgs(1, "a", 50, 2)
	flagged[1].Again = true
	long := msgs(1, "a", 50, 2)
	long[1].Body = strings.Repeat("x", 201)
	return [][]api.Msg{
		nil, {},
		msgs(1, "a", 1, 1), msgs(1, "a", 2, 2), msgs(1, "a", 3, 2), msgs(1, "a", 4, 1), msgs(1, "a", 50, 8),
		msgs(0, "a", 1, 3), msgs(3, "held b", 1, 1), msgs(3, "held b", 2, 1), msgs(3, "held b", 1, 2), msgs(2, "new", 7, 2),
		msgs(1, "a", 50, 9), wide, mixed, others, flagged, long, msgs(4, "a", 1, 1), msgs(1, "", 1, 1), {{}},
	}
}

// acks are all lists of up to three of some tags.
func acks() [][]int {
	tags := []int{0, 1, 2, 3, 9, -1, 1<<32 + 1}
	l := [][]int{nil}
	for _, a := range tags {
		l = append(l, []int{a})
		for _, b := range tags {
			l = append(l, []int{a, b})
			for _, c := range tags {
				l = append(l, []int{a, b, c})
			}
		}
	}
	return append(l, []int{}, []int{9, 8, 7, 6, 5, 3, 2, 1}, []int{14, 2, 9, 5}, []int{14, 2, 9, 5, 2}, []int{math.MaxInt, 1}, []int{math.MinInt})
}

// wanted is what the chapter says of Do.
func wanted(s api.Shard, put []api.Msg, ack []int) (api.Shard, int) {
	if len(put)+len(ack) == 0 || !shard.May(s) {
		return s, api.ErrArg
	}
	left := copyOf(s)
	for _, tag := range ack {
		k := slices.IndexFunc(left.Held, func(h api.Held) bool { return h.Tag == tag })
		if k < 0 {
			return s, api.ErrNone
		}
		left.Held = append(left.Held[:k:k], left.Held[k+1:]...)
	}
	if len(put) == 0 {
		return left, api.OK
	}
	full, code := shard.Put(left, put)
	switch code {
	case api.OK:
		return full, api.OK
	case api.ErrDup:
		return left, api.ErrDup
	}
	return s, code
}

// Promise 13.1, Do: over many shards, batches and tags, as the chapter says.
func TestDo(t *testing.T) {
	met := map[int]int{}
	for i, s := range slices.Concat(good(), bad()) {
		for k, put := range puts() {
			for _, ack := range acks() {
				want, code := wanted(s, put, ack)
				x, got := Do(s, put, ack)
				if got != code || !shard.Same(x, want) {
					t.Fatalf("shard %d, batch %d, tags %v: %+v, %d, not %+v, %d", i, k, ack, x, got, want, code)
				}
				if len(ack) > 0 {
					met[got]++
				}
			}
		}
	}
	for _, code := range []int{api.OK, api.ErrArg, api.ErrNone, api.ErrFull, api.ErrFrozen, api.ErrDup} {
		if met[code] == 0 {
			t.Error("never met:", code)
		}
	}
}

// did tells whether Do answers want, and code.
func did(t *testing.T, what string, s api.Shard, put []api.Msg, ack []int, want api.Shard, code int) {
	t.Helper()
	if x, got := Do(s, put, ack); got != code || !shard.Same(x, want) {
		t.Errorf("%s: %+v, %d, not %+v, %d", what, x, got, want, code)
	}
}

// Promise 13.1, Do: Acks, in their order, and then a Put.
func TestDoBoth(t *testing.T) {
	s := some(2, 1, 2, 3)
	one := changed(s, func(s *api.Shard) { s.Held = []api.Held{held(2)} })
	all := changed(s, func(s *api.Shard) {
		s.Held = nil
		s.Ready = msgs(1, "a", 1, 4)
		s.Marks[0].Seq = 4
	})
	more := changed(s, func(s *api.Shard) {
		s.Ready = msgs(1, "a", 1, 4)
		s.Marks[0].Seq = 4
	})
	did(t, "acks alone", s, nil, []int{3, 1}, one, api.OK)
	did(t, "acks alone, frozen", frozen(s), nil, []int{3, 1}, frozen(one), api.OK)
	did(t, "a batch alone", s, msgs(1, "a", 3, 2), nil, more, api.OK)
	did(t, "both", s, msgs(1, "a", 3, 2), []int{2, 1, 3}, all, api.OK)
}

// Promise 13.1, Do: the Acks make room for the batch.
func TestDoRoom(t *testing.T) {
	s := some(40, 1, 2, 3, 5, 6, 7, 8, 9)
	left := changed(s, func(s *api.Shard) {
		s.Held = nil
		s.Ready = msgs(1, "a", 1, 48)
		s.Marks[0].Seq = 48
	})
	did(t, "room", s, msgs(1, "a", 41, 8), []int{1, 2, 3, 5, 6, 7, 8, 9}, left, api.OK)
	did(t, "room for one less", s, msgs(1, "a", 41, 8), []int{1, 2, 3, 5, 6, 7, 8}, s, api.ErrFull)
	did(t, "no room", s, msgs(1, "a", 41, 1), nil, s, api.ErrFull)
}

// Promise 13.1, Do: the first error, beside the shard as it was; ErrDup beside
// what the Acks made.
func TestDoErrors(t *testing.T) {
	s := some(3, 1, 2, 3)
	acked := changed(s, func(s *api.Shard) { s.Held = []api.Held{held(2)} })
	gap := append(msgs(1, "a", 4, 1), msg(1, 6, "a"))
	did(t, "neither", s, nil, nil, s, api.ErrArg)
	did(t, "neither, of a new one", shard.New(), nil, nil, shard.New(), api.ErrArg)
	did(t, "a tag twice", s, msgs(1, "a", 4, 1), []int{1, 1}, s, api.ErrNone)
	did(t, "a tag twice, at the end", s, nil, []int{1, 2, 3, 1}, s, api.ErrNone)
	did(t, "no such tag, ahead of a batch that may not be", s, gap, []int{1, 4}, s, api.ErrNone)
	did(t, "no such tag, ahead of a batch that came", s, msgs(1, "a", 1, 3), []int{1, 4}, s, api.ErrNone)
	did(t, "no such tag, ahead of what is frozen", frozen(s), msgs(1, "a", 4, 1), []int{4}, frozen(s), api.ErrNone)
	did(t, "a batch that may not be", s, gap, []int{1, 3}, s, api.ErrArg)
	did(t, "a batch of which some came", s, msgs(1, "a", 3, 2), []int{1, 3}, s, api.ErrArg)
	did(t, "frozen", frozen(s), msgs(1, "a", 4, 1), []int{1, 3}, frozen(s), api.ErrFrozen)
	did(t, "a batch that came", s, msgs(1, "a", 2, 2), []int{1, 3}, acked, api.ErrDup)
	did(t, "a batch that came, frozen", frozen(s), msgs(1, "a", 2, 2), []int{1, 3}, frozen(acked), api.ErrDup)
	did(t, "a batch that came, alone", s, msgs(1, "a", 2, 2), nil, s, api.ErrDup)
	did(t, "a shard that may not be", some(49, 1), nil, []int{1}, some(49, 1), api.ErrArg)
}

// Promises 13.3 and T4: of each batch, and of its tags, all or nothing.
func TestDoWhole(t *testing.T) {
	for i, s := range good() {
		for k, put := range puts() {
			for _, ack := range acks() {
				x, code := Do(s, put, ack)
				if !shard.May(x) {
					t.Fatal(i, k, ack, "may not be")
				}
				came, gone := 0, 0
				for _, m := range put {
					if slices.Contains(x.Ready, m) && !slices.Contains(s.Ready, m) {
						came++
					}
				}
				for _, tag := range ack {
					if !slices.ContainsFunc(x.Held, func(h api.Held) bool { return h.Tag == tag }) {
						gone++
					}
				}
				switch {
				case code == api.OK && (came != len(put) || gone != len(ack)):
					t.Fatal(i, k, ack, "in part:", came, gone)
				case code == api.ErrDup && (came != 0 || gone != len(ack)):
					t.Fatal(i, k, ack, "twice:", came, gone)
				case code != api.OK && code != api.ErrDup && !shard.Same(x, s):
					t.Fatal(i, k, ack, "changed beside", code)
				}
			}
		}
	}
}

// roomy is a copy of s whose lists have room behind them.
func roomy(s api.Shard) api.Shard {
	s.Ready = append(make([]api.Msg, 0, len(s.Ready)+9), s.Ready...)
	s.Held = append(make([]api.Held, 0, len(s.Held)+9), s.Held...)
	s.Marks = append(make([]api.Mark, 0, len(s.Marks)+9), s.Marks...)
	return s
}

// spoil changes all of s's lists.
func spoil(s api.Shard) {
	for i := range s.Ready {
		s.Ready[i].Key = "spoilt"
	}
	for i := range s.Held {
		s.Held[i].Tag = -i
	}
	for i := range s.Marks {
		s.Marks[i].Seq = -i
	}
}

// Rules 2 and 3: nothing that is handed in is changed, or shared with an answer;
// the same again gives the same.
func TestDoIsOwn(t *testing.T) {
	for i, s := range slices.Concat(good(), bad()) {
		for k, put := range puts() {
			for _, ack := range [][]int{nil, {1}, {2, 1}, {1, 2, 4}, {0}} {
				in, list, tags := roomy(s), slices.Clone(put), slices.Clone(ack)
				x, code := Do(in, list, tags)
				first := copyOf(x)
				if !shard.Same(in, s) || !slices.Equal(list, put) || !slices.Equal(tags, ack) {
					t.Fatal(i, k, ack, "changed what it was given")
				}
				spoil(in)
				clear(list)
				if !shard.Same(x, first) {
					t.Fatal(i, k, ack, "shares with what it was given")
				}
				spoil(x)
				if y, other := Do(s, put, ack); other != code || !shard.Same(y, first) {
					t.Fatal(i, k, ack, "answers otherwise a second time")
				}
			}
		}
	}
}
