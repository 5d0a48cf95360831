package shard

import (
	"slices"
	"testing"

	"carrefour/api"
)

// model is what a shard must be after all that was done to it: every message
// that was ever put, with what became of it.
type model struct {
	frozen bool
	tags   int // that were given
	low    int // the rank of what was put back last
	taken  []taken
}

// taken is a message that was put: it waits by its rank, unless it is held under
// a tag, or settled.
type taken struct {
	m       api.Msg
	rank    int
	tag     int
	settled bool
}

func (x model) copy() model {
	x.taken = slices.Clone(x.taken)
	return x
}

func (x *model) last(pub int, key string) int {
	last := 0
	for _, t := range x.taken {
		if t.m.Pub == pub && t.m.Key == key {
			last = max(last, t.m.Seq)
		}
	}
	return last
}

func (x *model) put(l []api.Msg) int {
	last := x.last(l[0].Pub, l[0].Key)
	if last >= l[len(l)-1].Seq {
		return api.ErrDup
	}
	if last >= l[0].Seq {
		return api.ErrArg
	}
	if x.frozen {
		return api.ErrFrozen
	}
	if 48-x.living() < len(l) {
		return api.ErrFull
	}
	for _, m := range l {
		x.taken = append(x.taken, taken{m: m, rank: len(x.taken) + 1})
	}
	return api.OK
}

func (x *model) living() int {
	n := 0
	for _, t := range x.taken {
		if !t.settled {
			n++
		}
	}
	return n
}

func (x *model) locked(key string) bool {
	return slices.ContainsFunc(x.taken, func(t taken) bool { return t.m.Key == key && t.tag > 0 && !t.settled })
}

func (x *model) get() (api.Held, int) {
	if x.frozen {
		return api.Held{}, api.ErrFrozen
	}
	next := -1
	for k, t := range x.taken {
		if !t.settled && t.tag == 0 && !x.locked(t.m.Key) && (next < 0 || t.rank < x.taken[next].rank) {
			next = k
		}
	}
	if next < 0 {
		return api.Held{}, api.ErrNone
	}
	x.tags++
	x.taken[next].tag = x.tags
	return api.Held{Tag: x.tags, M: x.taken[next].m}, api.OK
}

func (x *model) settle(tag int, back bool) int {
	for k, t := range x.taken {
		if tag > 0 && t.tag == tag && !t.settled {
			if back {
				x.low--
				x.taken[k] = taken{m: t.m, rank: x.low}
				x.taken[k].m.Again = true
			} else {
				x.taken[k].settled = true
			}
			return api.OK
		}
	}
	return api.ErrNone
}

func (x *model) turn(frozen bool) int {
	if x.frozen == frozen {
		return api.ErrState
	}
	x.frozen = frozen
	return api.OK
}

// shard is what the model says that there must be.
func (x *model) shard() api.Shard {
	s := api.Shard{Frozen: x.frozen, Next: x.tags + 1}
	waits := slices.DeleteFunc(slices.Clone(x.taken), func(t taken) bool { return t.settled || t.tag > 0 })
	slices.SortFunc(waits, func(a, b taken) int { return a.rank - b.rank })
	for _, t := range waits {
		s.Ready = append(s.Ready, t.m)
	}
	for _, t := range x.taken {
		if t.tag > 0 && !t.settled {
			s.Held = append(s.Held, api.Held{Tag: t.tag, M: t.m})
		}
		if !slices.ContainsFunc(s.Marks, func(m api.Mark) bool { return m.Pub == t.m.Pub && m.Key == t.m.Key }) {
			s.Marks = append(s.Marks, api.Mark{Pub: t.m.Pub, Key: t.m.Key, Seq: x.last(t.m.Pub, t.m.Key)})
		}
	}
	slices.SortFunc(s.Held, func(a, b api.Held) int { return a.Tag - b.Tag })
	return s
}

// pair is a shard and its model, to which the same is done.
type pair struct {
	s api.Shard
	x model
}

const kinds = 12 // of what do does

// do does one thing to both, and tells whether they answer alike.
func (p pair) do(kind int) (pair, bool) {
	s, x := p.s, p.x.copy()
	var code, want int
	var h, wanted api.Held
	put := func(pub int, key string, ahead, many int) {
		l := batch(pub, key, x.last(pub, key)+1+ahead, many)
		s, code = Put(p.s, l)
		want = x.put(l)
	}
	settle := func(tag int, back bool) {
		s, code = Ack(p.s, tag)
		if back {
			s, code = Nack(p.s, tag)
		}
		want = x.settle(tag, back)
	}
	switch kind {
	case 0:
		put(0, "a", 0, 2)
	case 1:
		put(1, "a", 1, 1)
	case 2:
		put(0, "b", 0, 3)
	case 3:
		put(0, "a", -1, 1) // it was taken already, if any was
	case 4:
		put(0, "b", -1, 2) // and this one in part
	case 5, 6:
		s, h, code = Get(p.s)
		wanted, want = x.get()
	case 7:
		settle(lowest(p.s), false)
	case 8:
		settle(p.s.Next-1, false)
	case 9:
		settle(lowest(p.s), true)
	case 10:
		settle(p.s.Next-1, true)
	case 11:
		if p.s.Frozen {
			s, code = Thaw(p.s)
		} else {
			s, code = Freeze(p.s)
		}
		want = x.turn(!p.s.Frozen)
	}
	return pair{s, x}, code == want && h == wanted && May(s) && lawful(s)
}

// lowest is the tag of what is held longest, or of what nothing has.
func lowest(s api.Shard) int {
	if len(s.Held) == 0 {
		return s.Next + 1
	}
	return s.Held[0].Tag
}

// Promises 12.2 to 12.4: all runs of five things done, against the model.
func TestAllRuns(t *testing.T) {
	runs := 0
	var run func(p pair, done []int)
	run = func(p pair, done []int) {
		if runs++; !equal(p.s, p.x.shard()) {
			t.Fatalf("%v: %+v, not %+v", done, p.s, p.x.shard())
		}
		if len(done) == 5 {
			return
		}
		for kind := range kinds {
			if kind == 6 || !mayTry(p, kind) { // 6 is as 5
				continue
			}
			done := append(slices.Clone(done), kind)
			next, alike := p.do(kind)
			if !alike {
				t.Fatalf("%v: the last one is answered otherwise: %+v", done, next.s)
			}
			run(next, done)
		}
	}
	run(pair{s: New()}, nil)
	if runs < 50000 {
		t.Error("only", runs)
	}
}

// mayTry tells whether kind is of Seqs that may be.
func mayTry(p pair, kind int) bool {
	return (kind != 3 || p.x.last(0, "a") > 0) && (kind != 4 || p.x.last(0, "b") > 0)
}

// Promise 12.4: of a key, what came first goes first, one at a time; nothing is
// taken twice, or lost: over long runs, with batches told again.
func TestLongRuns(t *testing.T) {
	seed := uint32(1)
	number := func(n int) int {
		seed = seed*1664525 + 1013904223
		return int(seed>>8) % n
	}
	for run := range 300 {
		p := pair{s: New()}
		var told []string // what was handed out for the first time, in its order
		for step := range 200 {
			kind := number(kinds)
			if !mayTry(p, kind) {
				continue
			}
			next, alike := p.do(kind)
			if !alike || !equal(next.s, next.x.shard()) {
				t.Fatalf("run %d, step %d, kind %d: %+v, not %+v", run, step, kind, next.s, next.x.shard())
			}
			if n := len(next.s.Held); n > len(p.s.Held) && !next.s.Held[n-1].M.Again {
				told = append(told, next.s.Held[n-1].M.Key)
				checkOrder(t, next.s.Held[n-1].M, next.x, told)
			}
			p = next
		}
	}
}

// checkOrder asks whether m, which is told now, is the one that came after all
// others of its key that were told.
func checkOrder(t *testing.T, m api.Msg, x model, told []string) {
	t.Helper()
	n := 0
	for _, key := range told {
		if key == m.Key {
			n++
		}
	}
	for _, taken := range x.taken {
		if taken.m.Key != m.Key {
			continue
		}
		if n--; n == 0 && taken.m != m {
			t.Fatalf("%+v goes ahead of %+v", m, taken.m)
		}
	}
}

// Promise 12.4, over a split: each message and mark is in one part, in its order,
// and what was taken is not taken again there.
func TestPartsTakeNothingTwice(t *testing.T) {
	for k := range 16 {
		x, code := Part(keyed(), halves(), k)
		if code != api.OK {
			t.Fatal(k, code)
		}
		for _, m := range keyed().Marks {
			want := api.OK
			if ownerOf(halves(), m.Key) == k {
				want = api.ErrDup
			}
			if _, code := Put(x, batch(m.Pub, m.Key, m.Seq, 1)); code != want {
				t.Error(k, m, code)
			}
		}
	}
}
