package slip

import (
	"math"
	"slices"
	"strings"
	"testing"

	"carrefour/api"
	"carrefour/shard"
)

func msg(pub, seq int, key string) api.Msg {
	return api.Msg{Pub: pub, Seq: seq, Key: key, Body: key + "!"}
}

// msgs are many messages of pub and key, from a Seq on.
func msgs(pub int, key string, from, many int) []api.Msg {
	var l []api.Msg
	for i := range many {
		l = append(l, msg(pub, from+i, key))
	}
	return l
}

// busy is a shard with some of everything.
func busy() api.Shard {
	again := msg(3, 9, "d")
	again.Again = true
	return api.Shard{
		Next:  9,
		Ready: append(msgs(1, "a", 5, 3), again, msg(0, 1, "c")),
		Held:  []api.Held{{Tag: 3, M: msg(1, 4, "a")}, {Tag: 7, M: msg(0, 2, "b")}},
		Marks: []api.Mark{
			{Pub: 1, Key: "a", Seq: 7}, {Pub: 0, Key: "b", Seq: 5}, {Pub: 0, Key: "c", Seq: 1},
			{Pub: 3, Key: "d", Seq: 9}, {Pub: 3, Key: "gone", Seq: 4},
		},
	}
}

// great is as long as a shard's bytes can be.
func great() api.Shard {
	s := api.Shard{Next: 1 << 30}
	for i := range 64 {
		key := strings.Repeat("k", 19) + string(rune('0'+i/4))
		s.Marks = append(s.Marks, api.Mark{Pub: i % 4, Key: key, Seq: 1 << 30})
		if m := (api.Msg{Pub: i % 4, Seq: 1<<30 - 1, Key: key, Body: strings.Repeat("\xff", 200), Again: true}); i%4 == 0 {
			s.Held = append(s.Held, api.Held{Tag: 1<<30 - 17 + i/4, M: m})
		} else if len(s.Ready) < 32 {
			s.Ready = append(s.Ready, m)
		}
	}
	return s
}

// changed is a copy of r that change was done to.
func changed(r api.Record, change func(r *api.Record)) api.Record {
	r = copyOf(r)
	change(&r)
	return r
}

func copyOf(r api.Record) api.Record {
	r.Batch, r.Shard = slices.Clone(r.Batch), copyOfShard(r.Shard)
	return r
}

func copyOfShard(s api.Shard) api.Shard {
	return api.Shard{Frozen: s.Frozen, Next: s.Next, Ready: slices.Clone(s.Ready), Held: slices.Clone(s.Held), Marks: slices.Clone(s.Marks)}
}

func equal(a, b api.Record) bool {
	return a.Kind == b.Kind && a.Tag == b.Tag && a.Back == b.Back && slices.Equal(a.Batch, b.Batch) && equalShard(a.Shard, b.Shard)
}

func equalShard(a, b api.Shard) bool {
	return a.Frozen == b.Frozen && a.Next == b.Next && slices.Equal(a.Ready, b.Ready) && slices.Equal(a.Held, b.Held) && slices.Equal(a.Marks, b.Marks)
}

func put(l ...api.Msg) api.Record {
	return api.Record{Kind: api.RPut, Batch: l}
}

func tagged(kind, tag int) api.Record {
	return api.Record{Kind: kind, Tag: tag}
}

func bare(kind int) api.Record {
	return api.Record{Kind: kind}
}

func state(s api.Shard) api.Record {
	return api.Record{Kind: api.RState, Shard: s}
}

func frozen(s api.Shard) api.Shard {
	s = copyOfShard(s)
	s.Frozen = true
	return s
}

// good are records that may be.
func good() []api.Record {
	again := msg(2, 1<<30, "again")
	again.Again = true
	l := []api.Record{
		put(msg(0, 1, "a")), put(msgs(3, "b", 1<<30-7, 8)...), put(again), put(msg(0, 5, "a"), again, msg(0, 5, "a")),
		put(api.Msg{Seq: 1, Key: strings.Repeat("k", 20), Body: strings.Repeat("\x00", 200)}), put(api.Msg{Seq: 1, Key: "\xff"}),
		bare(api.RFreeze), bare(api.RThaw),
		state(shard.New()), state(busy()), state(frozen(busy())), state(great()), state(api.Shard{Next: 1 << 30}),
		{Kind: api.RThaw, Batch: []api.Msg{}, Shard: api.Shard{Ready: []api.Msg{}, Held: []api.Held{}, Marks: []api.Mark{}}},
	}
	for _, kind := range []int{api.RGet, api.RAck, api.RNack} {
		for _, tag := range []int{1, 2, 255, 256, 1<<30 - 1, 1 << 30} {
			l = append(l, tagged(kind, tag))
		}
	}
	return l
}

// wrongMsgs are messages that may not be.
func wrongMsgs() []api.Msg {
	return []api.Msg{
		{}, msg(-1, 1, "a"), msg(4, 1, "a"), msg(256, 1, "a"), msg(0, 0, "a"), msg(0, -1, "a"), msg(0, 1<<30+1, "a"), msg(0, 1<<32+1, "a"),
		{Seq: 1, Key: "", Body: "hi"}, {Seq: 1, Key: strings.Repeat("k", 21)}, {Seq: 1, Key: "k", Body: strings.Repeat("x", 201)},
		{Seq: 1, Key: strings.Repeat("k", 257)}, {Seq: 1, Key: "k", Body: strings.Repeat("x", 257)},
	}
}

// wrongShards are shards that may not be, by some of what chapter 12 asks.
func wrongShards() []api.Shard {
	l := []api.Shard{{}, {Next: -1}, {Next: 1<<30 + 1}, {Frozen: true}, {Next: 1 << 32}}
	for _, change := range []func(s *api.Shard){
		func(s *api.Shard) { s.Next = 7 },
		func(s *api.Shard) { s.Held[1].Tag = 3 },
		func(s *api.Shard) { s.Held[1].M = s.Ready[0] },
		func(s *api.Shard) { s.Ready[0].Seq = 8 },
		func(s *api.Shard) { s.Ready[0].Key = "none" },
		func(s *api.Shard) { s.Ready = msgs(1, "a", 5, 47) },
		func(s *api.Shard) { s.Marks[1] = s.Marks[0] },
		func(s *api.Shard) { s.Marks[4].Seq = 0 },
	} {
		s := busy()
		change(&s)
		l = append(l, s)
	}
	return l
}

// bad are records that may not be, for one reason each.
func bad() []api.Record {
	l := []api.Record{put(), put(msgs(1, "a", 1, 9)...), put(msgs(1, "a", 1, 300)...)}
	for _, m := range wrongMsgs() {
		l = append(l, put(m), put(m, msg(0, 1, "a")), put(append(msgs(1, "a", 1, 7), m)...))
	}
	for _, s := range wrongShards() {
		l = append(l, state(s))
	}
	for _, kind := range []int{api.RGet, api.RAck, api.RNack} {
		for _, tag := range []int{0, -1, 1<<30 + 1, 1 << 31, 1<<32 + 1, math.MaxInt, math.MinInt} {
			l = append(l, tagged(kind, tag))
		}
	}
	for _, kind := range []int{0, -1, 8, 9, 255, 256, 257, 263, 1<<32 + 1, math.MaxInt, math.MinInt} {
		for _, r := range []api.Record{put(msg(0, 1, "a")), tagged(0, 1), bare(0), state(shard.New())} {
			l = append(l, changed(r, func(r *api.Record) { r.Kind = kind }))
		}
	}
	return append(l, overfull()...)
}

// overfull are good records with one part that their kind has not.
func overfull() []api.Record {
	var l []api.Record
	for _, r := range good() {
		add := func(change func(r *api.Record)) { l = append(l, changed(r, change)) }
		add(func(r *api.Record) { r.Back = true })
		if r.Tag == 0 {
			add(func(r *api.Record) { r.Tag = 1 })
			add(func(r *api.Record) { r.Tag = -1 })
		}
		if len(r.Batch) == 0 {
			add(func(r *api.Record) { r.Batch = msgs(0, "a", 1, 1) })
			add(func(r *api.Record) { r.Batch = make([]api.Msg, 1) })
		}
		if r.Kind == api.RState {
			continue
		}
		add(func(r *api.Record) { r.Shard = shard.New() })
		add(func(r *api.Record) { r.Shard = busy() })
		add(func(r *api.Record) { r.Shard.Frozen = true })
		add(func(r *api.Record) { r.Shard.Ready = msgs(0, "a", 1, 1) })
		add(func(r *api.Record) { r.Shard.Held = make([]api.Held, 1) })
		add(func(r *api.Record) { r.Shard.Marks = make([]api.Mark, 1) })
	}
	return l
}

// Promise 14.1, May: what each kind has, and nothing else.
func TestMay(t *testing.T) {
	for i, r := range good() {
		if !May(r) {
			t.Errorf("good %d may not be: %+v", i, r)
		}
	}
	for i, r := range bad() {
		if May(r) {
			t.Errorf("bad %d may be: %+v", i, r)
		}
	}
}

// Promise 14.1, Same: in all parts.
func TestSame(t *testing.T) {
	l := slices.Concat(good(), bad())
	for i, a := range l {
		for k, b := range l {
			if Same(a, b) != equal(a, b) {
				t.Errorf("%d and %d", i, k)
			}
		}
	}
	whole := api.Record{Kind: 1, Tag: 2, Back: true, Batch: msgs(0, "a", 1, 2), Shard: busy()}
	for i, change := range []func(r *api.Record){
		func(r *api.Record) { r.Kind = 2 },
		func(r *api.Record) { r.Tag = 1 },
		func(r *api.Record) { r.Back = false },
		func(r *api.Record) { r.Batch = r.Batch[:1] },
		func(r *api.Record) { r.Batch[1].Body = "" },
		func(r *api.Record) { r.Shard.Frozen = true },
		func(r *api.Record) { r.Shard.Next++ },
		func(r *api.Record) { r.Shard.Ready[1].Again = true },
		func(r *api.Record) { r.Shard.Held[1].Tag = 8 },
		func(r *api.Record) { r.Shard.Marks[1].Seq++ },
	} {
		other := changed(whole, change)
		if Same(whole, other) || Same(other, whole) || !Same(whole, copyOf(whole)) {
			t.Error(i)
		}
	}
}

// done is what the chapter says of Apply.
func done(s api.Shard, r api.Record) (api.Shard, int) {
	if !May(r) {
		return s, api.ErrArg
	}
	switch r.Kind {
	case 1:
		return shard.Put(s, r.Batch)
	case 2:
		x, h, code := shard.Get(s)
		if code == 0 && h.Tag != r.Tag {
			return s, 1
		}
		return x, code
	case 3:
		return shard.Ack(s, r.Tag)
	case 4:
		return shard.Nack(s, r.Tag)
	case 5:
		return shard.Freeze(s)
	case 6:
		return shard.Thaw(s)
	}
	return r.Shard, 0
}

// shards are such as records are applied to.
func shards() []api.Shard {
	last := busy()
	last.Next = 1 << 30
	l := []api.Shard{shard.New(), busy(), frozen(busy()), frozen(shard.New()), great(), last, {Next: 5, Marks: busy().Marks}}
	return append(l, wrongShards()...)
}

// records are those that something may be done with in shards.
func records() []api.Record {
	l := []api.Record{put(msgs(1, "a", 8, 2)...), put(msgs(1, "a", 6, 2)...), put(msgs(1, "a", 7, 2)...), put(msg(2, 1, "new")), put(msg(1, 8, "a"), msg(1, 10, "a"))}
	for _, kind := range []int{api.RGet, api.RAck, api.RNack} {
		for _, tag := range []int{1, 3, 4, 7, 8, 9, 10, 1 << 30} {
			l = append(l, tagged(kind, tag))
		}
	}
	return slices.Concat(l, good(), bad())
}

// Promise 14.2, Apply: over many shards and records, as the chapter says.
func TestApply(t *testing.T) {
	type met struct{ kind, code int }
	all := map[met]bool{}
	for i, s := range shards() {
		for k, r := range records() {
			want, code := done(s, r)
			if x, got := Apply(s, r); got != code || !equalShard(x, want) {
				t.Fatalf("shard %d, record %d: %+v, %d, not %+v, %d", i, k, x, got, want, code)
			}
			if May(r) {
				all[met{r.Kind, code}] = true
			}
		}
	}
	for _, m := range []met{
		{api.RPut, api.OK}, {api.RPut, api.ErrArg}, {api.RPut, api.ErrDup}, {api.RPut, api.ErrFrozen}, {api.RPut, api.ErrFull},
		{api.RGet, api.OK}, {api.RGet, api.ErrArg}, {api.RGet, api.ErrFrozen}, {api.RGet, api.ErrNone}, {api.RGet, api.ErrFull},
		{api.RAck, api.OK}, {api.RAck, api.ErrArg}, {api.RAck, api.ErrNone}, {api.RNack, api.OK}, {api.RNack, api.ErrArg}, {api.RNack, api.ErrNone},
		{api.RFreeze, api.OK}, {api.RFreeze, api.ErrState}, {api.RThaw, api.OK}, {api.RThaw, api.ErrState}, {api.RState, api.OK},
	} {
		if !all[m] {
			t.Error("never met:", m)
		}
	}
}

// applied tells whether Apply answers want, and code.
func applied(t *testing.T, what string, s api.Shard, r api.Record, want api.Shard, code int) {
	t.Helper()
	if x, got := Apply(s, r); got != code || !equalShard(x, want) {
		t.Errorf("%s: %+v, %d, not %+v, %d", what, x, got, want, code)
	}
}

// Promise 14.2, Apply: each kind, worked out by hand.
func TestApplyByHand(t *testing.T) {
	s := busy()
	with := func(change func(s *api.Shard)) api.Shard {
		x := busy()
		change(&x)
		return x
	}
	got := with(func(s *api.Shard) {
		s.Next, s.Ready, s.Held = 10, append(msgs(1, "a", 5, 3), msg(0, 1, "c")), append(s.Held, api.Held{Tag: 9, M: s.Ready[3]})
	})
	back := with(func(s *api.Shard) {
		m := s.Held[0].M
		m.Again = true
		s.Ready, s.Held = append([]api.Msg{m}, s.Ready...), s.Held[1:]
	})
	applied(t, "a batch", s, put(msgs(1, "a", 8, 1)...), with(func(s *api.Shard) {
		s.Ready, s.Marks[0].Seq = append(s.Ready, msg(1, 8, "a")), 8
	}), api.OK)
	applied(t, "a batch that came", s, put(msgs(1, "a", 7, 1)...), s, api.ErrDup)
	applied(t, "messages that are no batch", s, put(msg(1, 8, "a"), msg(2, 9, "a")), s, api.ErrArg)
	applied(t, "a flagged batch", s, put(api.Msg{Pub: 1, Seq: 8, Key: "a", Again: true}), s, api.ErrArg)
	applied(t, "the next tag", s, tagged(api.RGet, 9), got, api.OK)
	applied(t, "a tag before", s, tagged(api.RGet, 8), s, api.ErrArg)
	applied(t, "a tag behind", s, tagged(api.RGet, 10), s, api.ErrArg)
	applied(t, "another tag, frozen", frozen(s), tagged(api.RGet, 10), frozen(s), api.ErrFrozen)
	applied(t, "another tag, of nothing", shard.New(), tagged(api.RGet, 2), shard.New(), api.ErrNone)
	applied(t, "settled", s, tagged(api.RAck, 3), with(func(s *api.Shard) { s.Held = s.Held[1:] }), api.OK)
	applied(t, "put back", s, tagged(api.RNack, 3), back, api.OK)
	applied(t, "not held", s, tagged(api.RAck, 4), s, api.ErrNone)
	applied(t, "not held, put back", s, tagged(api.RNack, 4), s, api.ErrNone)
	applied(t, "frozen", s, bare(api.RFreeze), frozen(s), api.OK)
	applied(t, "frozen twice", frozen(s), bare(api.RFreeze), frozen(s), api.ErrState)
	applied(t, "thawed", frozen(s), bare(api.RThaw), s, api.OK)
	applied(t, "thawed twice", s, bare(api.RThaw), s, api.ErrState)
	applied(t, "a state", frozen(s), state(great()), great(), api.OK)
	applied(t, "a state, of what may not be", wrongShards()[6], state(busy()), busy(), api.OK)
	applied(t, "a state that may not be", s, state(api.Shard{}), s, api.ErrArg)
	applied(t, "no kind", s, bare(8), s, api.ErrArg)
	applied(t, "no kind, of what may not be", wrongShards()[6], bare(0), wrongShards()[6], api.ErrArg)
}

// Promise 14.2, Open: from New on; the first error, beside what was ahead of it.
func TestOpen(t *testing.T) {
	l := []api.Record{
		put(msgs(1, "a", 1, 2)...), tagged(api.RGet, 1), tagged(api.RNack, 1), tagged(api.RGet, 2), tagged(api.RAck, 2),
		bare(api.RFreeze), bare(api.RThaw), state(busy()), tagged(api.RAck, 3), tagged(api.RGet, 9),
	}
	want := shard.New()
	for n := range len(l) + 1 {
		if n > 0 {
			want, _ = Apply(want, l[n-1])
		}
		if s, code := Open(l[:n]); code != api.OK || !equalShard(s, want) {
			t.Errorf("%d records: %+v, %d, not %+v", n, s, code, want)
		}
		for _, fails := range []struct {
			r    api.Record
			code int
		}{{bare(0), api.ErrArg}, {tagged(api.RAck, 77), api.ErrNone}, {state(api.Shard{}), api.ErrArg}, {put(msg(0, 1, "a"), msg(0, 1, "a")), api.ErrArg}} {
			m := slices.Concat(l[:n], []api.Record{fails.r}, l[n:], []api.Record{bare(api.RThaw), bare(api.RThaw)})
			if s, code := Open(m); code != fails.code || !equalShard(s, want) {
				t.Errorf("%d records, and %+v: %+v, %d, not %+v", n, fails.r, s, code, want)
			}
		}
	}
	if s, code := Open([]api.Record{l[0], l[0], l[1]}); code != api.ErrDup || len(s.Ready) != 2 || len(s.Held) != 0 {
		t.Errorf("a batch twice: %+v, %d", s, code)
	}
	for _, none := range [][]api.Record{nil, {}} {
		if s, code := Open(none); code != api.OK || !equalShard(s, api.Shard{Next: 1}) {
			t.Errorf("nothing: %+v, %d", s, code)
		}
	}
}

// spoil changes all of s's lists.
func spoil(s api.Shard) {
	for i := range s.Ready {
		s.Ready[i].Key = "spoilt"
	}
	for i := range s.Held {
		s.Held[i].Tag = -i
	}
	for i := range s.Marks {
		s.Marks[i].Seq = -i
	}
}

// roomy is a copy of s whose lists have room behind them.
func roomy(s api.Shard) api.Shard {
	s.Ready = append(make([]api.Msg, 0, len(s.Ready)+9), s.Ready...)
	s.Held = append(make([]api.Held, 0, len(s.Held)+9), s.Held...)
	s.Marks = append(make([]api.Mark, 0, len(s.Marks)+9), s.Marks...)
	return s
}

// Rules 2 and 3: nothing that is handed in is changed, or shared with an answer;
// the same again gives the same.
func TestApplyIsOwn(t *testing.T) {
	for i, s := range shards() {
		for k, r := range records() {
			in, with := roomy(s), copyOf(r)
			with.Shard = roomy(r.Shard)
			x, code := Apply(in, with)
			first := copyOfShard(x)
			if !equalShard(in, s) || !equal(with, r) {
				t.Fatal(i, k, "changed what it was given")
			}
			spoil(in)
			spoil(with.Shard)
			clear(with.Batch)
			if !equalShard(x, first) {
				t.Fatal(i, k, "shares with what it was given")
			}
			spoil(x)
			if y, other := Apply(s, r); other != code || !equalShard(y, first) {
				t.Fatal(i, k, "answers otherwise a second time")
			}
		}
	}
}

// Rule 2, of Open: also of a state that is the last record.
func TestOpenIsOwn(t *testing.T) {
	l := []api.Record{put(msgs(1, "a", 1, 2)...), state(roomy(busy()))}
	s, _ := Open(l)
	spoil(s)
	if !equal(l[1], state(busy())) {
		t.Error("shares with a record")
	}
	s, _ = Open(l[:1])
	spoil(s)
	if !equal(l[0], put(msgs(1, "a", 1, 2)...)) {
		t.Error("shares with a batch")
	}
}
