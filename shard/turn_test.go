package shard

import (
	"math"
	"slices"
	"strings"
	"testing"

	"carrefour/api"
	"carrefour/point"
)

// batch is many messages of pub and key, from a Seq on.
func batch(pub int, key string, from, many int) []api.Msg {
	var l []api.Msg
	for i := range many {
		l = append(l, msg(pub, from+i, key))
	}
	return l
}

// turns are all that may be done to a shard, by numbers that mostly do it.
func turns() []func(s api.Shard) (api.Shard, int) {
	return []func(s api.Shard) (api.Shard, int){
		func(s api.Shard) (api.Shard, int) { return Put(s, batch(0, "z", 1, 1)) },
		func(s api.Shard) (api.Shard, int) { return Put(s, batch(1, "a", 8, 3)) },
		func(s api.Shard) (api.Shard, int) { return Put(s, batch(1, "a", 1, 1)) },
		func(s api.Shard) (api.Shard, int) { return Put(s, nil) },
		func(s api.Shard) (api.Shard, int) {
			s, h, code := Get(s)
			if code != api.OK && h != (api.Held{}) {
				code = -1
			}
			return s, code
		},
		func(s api.Shard) (api.Shard, int) { return Ack(s, 3) },
		func(s api.Shard) (api.Shard, int) { return Ack(s, 7) },
		func(s api.Shard) (api.Shard, int) { return Ack(s, 0) },
		func(s api.Shard) (api.Shard, int) { return Nack(s, 3) },
		func(s api.Shard) (api.Shard, int) { return Nack(s, 7) },
		func(s api.Shard) (api.Shard, int) { return Nack(s, 0) },
		Freeze,
		Thaw,
		func(s api.Shard) (api.Shard, int) { return Part(s, halves(), 0) },
		func(s api.Shard) (api.Shard, int) { return Part(s, halves(), 9) },
		func(s api.Shard) (api.Shard, int) { return Part(s, nil, 0) },
	}
}

// halves are arcs by which shards 0 and 9 have half of the ring each.
func halves() []api.Arc {
	return []api.Arc{{From: 0, Shard: 0}, {From: 1 << 31, Shard: 9}}
}

// Promise 12.2: ErrArg, unless May, whatever else is wrong; beside s as it is.
func TestErrArg(t *testing.T) {
	for i, s := range bad() {
		for k, turn := range turns() {
			for _, s := range []api.Shard{s, frozen(s)} {
				if x, code := turn(s); code != api.ErrArg || !equal(x, s) {
					t.Errorf("bad %d, turn %d: %d", i, k, code)
				}
			}
		}
	}
}

// Promise 12.2: what may be is followed by what may be; beside an error it is as
// it was.
func TestTurns(t *testing.T) {
	for i, s := range good() {
		for k, turn := range turns() {
			x, code := turn(s)
			if code != api.OK && !equal(x, s) || code == api.OK && equal(x, s) || !May(x) || !lawful(x) {
				t.Errorf("good %d, turn %d: %+v, %d", i, k, x, code)
			}
		}
	}
}

// putRefused tells whether Put answers s as it is, and want.
func putRefused(s api.Shard, l []api.Msg, want int) bool {
	x, code := Put(s, l)
	return code == want && equal(x, s)
}

// Promise 12.2, Put: behind all in Ready; the mark is the last one's Seq, in its
// place, or a new one behind the others.
func TestPut(t *testing.T) {
	for i, c := range []struct {
		l    []api.Msg
		mark int // its place
	}{
		{batch(1, "a", 8, 1), 0},
		{batch(1, "a", 8, 8), 0},
		{batch(1, "a", 100, 2), 0},
		{batch(2, "a", 2, 1), 1},
		{batch(0, "b", 6, 2), 2},
		{batch(3, "gone", 5, 3), 5},
		{batch(0, "a", 1, 1), 7},
		{batch(0, "a", 77, 4), 7},
		{batch(1, "b", 1, 1), 7},
		{batch(2, "new", 1, 8), 7},
		{batch(2, strings.Repeat("x", 20), 1<<30-7, 8), 7},
		{batch(1, "a", 1<<30, 1), 0},
		{[]api.Msg{{Pub: 1, Seq: 8, Key: "a"}, {Pub: 1, Seq: 9, Key: "a", Body: strings.Repeat("x", 200)}, {Pub: 1, Seq: 10, Key: "a"}}, 0},
	} {
		s := busy()
		want := busy()
		want.Ready = append(want.Ready, c.l...)
		last := c.l[len(c.l)-1]
		want.Marks = append(want.Marks[:c.mark], api.Mark{Pub: last.Pub, Key: last.Key, Seq: last.Seq})
		want.Marks = append(want.Marks, s.Marks[min(c.mark+1, len(s.Marks)):]...)
		x, code := Put(s, c.l)
		if code != api.OK || !equal(x, want) || !May(x) || !equal(s, busy()) {
			t.Errorf("%d: %+v, %d", i, x, code)
		}
		if n := Last(x, last.Pub, last.Key); n != last.Seq {
			t.Errorf("%d: Last is %d", i, n)
		}
	}
	x, code := Put(New(), batch(3, "k", 5, 2))
	if code != api.OK || !equal(x, api.Shard{Next: 1, Ready: batch(3, "k", 5, 2), Marks: []api.Mark{{Pub: 3, Key: "k", Seq: 6}}}) {
		t.Errorf("into a new one: %+v, %d", x, code)
	}
}

// wrongBatches are lists that may be put nowhere, for one reason each.
func wrongBatches() [][]api.Msg {
	l := [][]api.Msg{nil, {}, batch(1, "a", 8, 9), batch(1, "a", 8, 256), batch(1, "z", 1, 1000)}
	for _, m := range wrongMsgs() {
		l = append(l, []api.Msg{m}, []api.Msg{msg(1, 8, "a"), m}, []api.Msg{m, msg(1, 8, "a")})
	}
	for k := range 3 {
		for _, change := range []func(m *api.Msg){
			func(m *api.Msg) { m.Again = true },
			func(m *api.Msg) { m.Pub = 2 },
			func(m *api.Msg) { m.Key = "z" },
			func(m *api.Msg) { m.Key = "aa" },
			func(m *api.Msg) { m.Seq += 9 },
			func(m *api.Msg) { m.Seq += 1 << 32 },
			func(m *api.Msg) { m.Seq-- },
			func(m *api.Msg) { m.Body = strings.Repeat("x", 201) },
		} {
			b := batch(1, "a", 8, 3)
			change(&b[k])
			l = append(l, b)
		}
	}
	return append(l, []api.Msg{again(1, 8, "a")}, []api.Msg{again(1, 8, "z")}, batch(1, "a", 1<<30, 2), batch(1, "a", 1<<30-6, 8), batch(1, "a", math.MaxInt, 2),
		[]api.Msg{msg(1, 10, "a"), msg(1, 9, "a")}, []api.Msg{msg(1, 8, "a"), msg(1, 8, "a")}, []api.Msg{msg(1, 8, "a"), msg(1, 10, "a")})
}

// Promise 12.2, Put: ErrArg of what may not be put, ahead of all else.
func TestPutErrArg(t *testing.T) {
	full := filled(40, 8, 64)
	for i, l := range wrongBatches() {
		for k, s := range []api.Shard{New(), busy(), full} {
			if !putRefused(s, l, api.ErrArg) || !putRefused(frozen(s), l, api.ErrArg) {
				t.Error("batch", i, "into", k)
			}
		}
	}
}

// Promise 12.2, Put: ErrDup of what was taken, ErrArg of what was taken in part,
// whatever the shard has or is.
func TestPutTaken(t *testing.T) {
	full := changed(filled(40, 8, 64), func(s *api.Shard) { s.Marks[2].Seq = 20 })
	for first := 1; first <= 30; first++ {
		for many := 1; many <= 8; many++ {
			last := first + many - 1
			want := api.OK
			if 20 >= last {
				want = api.ErrDup
			} else if 20 >= first {
				want = api.ErrArg
			}
			s := New()
			s.Marks = []api.Mark{{Pub: 1, Key: "a", Seq: 3}, {Pub: 2, Key: "key 0", Seq: 20}, {Pub: 2, Key: "a", Seq: 50}, {Pub: 1, Key: "key 0", Seq: 50}}
			l := batch(2, "key 0", first, many)
			if _, code := Put(s, l); code != want {
				t.Fatal(first, many, code)
			}
			if want == api.OK {
				if !putRefused(frozen(s), l, api.ErrFrozen) || !putRefused(full, l, api.ErrFull) || !putRefused(frozen(full), l, api.ErrFrozen) {
					t.Fatal(first, many, "is not refused")
				}
			} else if !putRefused(s, l, want) || !putRefused(frozen(s), l, want) || !putRefused(full, l, want) || !putRefused(frozen(full), l, want) {
				t.Fatal(first, many, "is not told as taken")
			}
		}
	}
}

// Promise 12.2, Put: ErrFull of more than 48 messages, held ones too.
func TestPutFull(t *testing.T) {
	for held := range 17 {
		for ready := range 49 - held {
			s := filled(ready, held, 63)
			for many := 1; many <= 8; many++ {
				room := ready+held+many <= 48
				for _, l := range [][]api.Msg{batch(1, "key 0", 1000, many), batch(1, "new", 1, many)} {
					if x, code := Put(s, l); room != (code == api.OK) || room && len(x.Ready) != ready+many {
						t.Fatal(ready, held, many, code)
					}
					if !room && !putRefused(s, l, api.ErrFull) || room && !putRefused(frozen(s), l, api.ErrFrozen) {
						t.Fatal(ready, held, many, "is not refused")
					}
				}
			}
		}
	}
}

// Promise 12.2, Put: ErrFull of more than 64 marks.
func TestPutMarks(t *testing.T) {
	for marks := range 65 {
		s := filled(0, 0, marks)
		x, code := Put(s, batch(3, "new", 1, 8))
		if marks < 64 && (code != api.OK || len(x.Marks) != marks+1 || x.Marks[marks] != api.Mark{Pub: 3, Key: "new", Seq: 8}) {
			t.Error(marks, "marks:", code)
		}
		if marks == 64 && !putRefused(s, batch(3, "new", 1, 1), api.ErrFull) {
			t.Error("64 marks:", code)
		}
		for k, m := range s.Marks { // a mark that is there
			if x, code := Put(s, batch(m.Pub, m.Key, m.Seq+1, 2)); code != api.OK || len(x.Marks) != marks || x.Marks[k].Seq != m.Seq+2 {
				t.Error(marks, "marks, to the mark", k, code)
			}
		}
	}
}

// Promise 12.2, Get: the first whose key nobody holds; behind what is held, with
// the next tag.
func TestGet(t *testing.T) {
	s := busy()
	for i, want := range []struct {
		m    api.Msg
		left []api.Msg
	}{
		{msg(0, 1, "c"), []api.Msg{msg(1, 5, "a"), msg(2, 1, "a"), msg(0, 3, "b"), msg(1, 7, "a"), again(3, 9, "d"), msg(1, 1, "c")}},
		{again(3, 9, "d"), []api.Msg{msg(1, 5, "a"), msg(2, 1, "a"), msg(0, 3, "b"), msg(1, 7, "a"), msg(1, 1, "c")}},
	} {
		x, h, code := Get(s)
		wanted := api.Shard{Next: 10 + i, Ready: want.left, Held: append(slices.Clone(s.Held), h), Marks: s.Marks}
		if code != api.OK || h != (api.Held{Tag: 9 + i, M: want.m}) || !equal(x, wanted) || !May(x) {
			t.Fatalf("%d: %+v, %+v, %d", i, x, h, code)
		}
		s = x
	}
	getRefused(t, s, api.ErrNone)
	s, _ = Ack(s, 3) // the key "a" is free
	x, h, code := Get(s)
	if code != api.OK || h != (api.Held{Tag: 11, M: msg(1, 5, "a")}) || x.Next != 12 || !equal(x, changed(s, func(s *api.Shard) {
		s.Next, s.Ready, s.Held = 12, s.Ready[1:], append(s.Held, h)
	})) {
		t.Fatalf("%+v, %+v, %d", x, h, code)
	}
	getRefused(t, x, api.ErrNone)
	if _, h, code := Get(drained()); code != api.OK || h != (api.Held{Tag: 9, M: msg(1, 5, "a")}) {
		t.Error("nothing is held, and it is not the first:", h, code)
	}
}

// getRefused tells whether Get answers s as it is, nothing, and want.
func getRefused(t *testing.T, s api.Shard, want int) {
	t.Helper()
	if x, h, code := Get(s); code != want || h != (api.Held{}) || !equal(x, s) {
		t.Errorf("%+v, %+v, %d, not %d", x, h, code, want)
	}
}

// Promise 12.2, Get: ErrFrozen, ErrNone, ErrFull, in this order.
func TestGetRefused(t *testing.T) {
	last := func(s *api.Shard) { s.Next = 1 << 30 }
	locked := changed(busy(), func(s *api.Shard) { s.Ready = s.Ready[:3] })
	for _, s := range []api.Shard{New(), locked, filled(0, 16, 64), filled(0, 0, 64), filled(48-16, 16, 64)} {
		getRefused(t, s, api.ErrNone)
		getRefused(t, frozen(s), api.ErrFrozen)
		getRefused(t, changed(s, last), api.ErrNone)
		getRefused(t, frozen(changed(s, last)), api.ErrFrozen)
	}
	for _, s := range []api.Shard{busy(), drained(), filled(48, 0, 64)} {
		getRefused(t, frozen(s), api.ErrFrozen)
		getRefused(t, changed(s, last), api.ErrFull)
		getRefused(t, frozen(changed(s, last)), api.ErrFrozen)
	}
	x, h, code := Get(changed(busy(), func(s *api.Shard) { s.Next = 1<<30 - 1 }))
	if code != api.OK || h.Tag != 1<<30-1 || x.Next != 1<<30 || !May(x) {
		t.Error("the last tag:", h, x.Next, code)
	}
	getRefused(t, x, api.ErrFull)
}

// Promise 12.2, Ack: it is gone, of a frozen shard as well.
func TestAck(t *testing.T) {
	for i, h := range busy().Held {
		for _, s := range []api.Shard{busy(), frozen(busy()), changed(busy(), func(s *api.Shard) { s.Next = 1 << 30 })} {
			want := changed(s, func(s *api.Shard) { s.Held = slices.Delete(s.Held, i, i+1) })
			x, code := Ack(s, h.Tag)
			if code != api.OK || !equal(x, want) || !May(x) {
				t.Errorf("%d: %+v, %d", h.Tag, x, code)
			}
			if y, code := Ack(x, h.Tag); code != api.ErrNone || !equal(y, x) {
				t.Errorf("%d a second time: %d", h.Tag, code)
			}
		}
	}
	s := filled(0, 16, 64)
	for tag := 16; tag >= 1; tag-- {
		x, code := Ack(s, tag)
		if code != api.OK || len(x.Held) != tag-1 || !slices.Equal(x.Held, s.Held[:tag-1]) {
			t.Error(tag, x.Held, code)
		}
		s = x
	}
}

// Promise 12.2, Nack: the first in Ready, flagged.
func TestNack(t *testing.T) {
	for i, h := range busy().Held {
		for _, s := range []api.Shard{busy(), frozen(busy()), changed(busy(), func(s *api.Shard) { s.Next = 1 << 30 })} {
			want := changed(s, func(s *api.Shard) {
				s.Ready = slices.Concat([]api.Msg{again(h.M.Pub, h.M.Seq, h.M.Key)}, s.Ready)
				s.Held = slices.Delete(s.Held, i, i+1)
			})
			x, code := Nack(s, h.Tag)
			if code != api.OK || !equal(x, want) || !May(x) {
				t.Errorf("%d: %+v, %d", h.Tag, x, code)
			}
			if y, code := Nack(x, h.Tag); code != api.ErrNone || !equal(y, x) {
				t.Errorf("%d a second time: %d", h.Tag, code)
			}
		}
	}
	s, code := Nack(filled(32, 16, 64), 1) // a full one stays so
	if code != api.OK || len(s.Ready) != 33 || len(s.Held) != 15 || !May(s) {
		t.Error(len(s.Ready), len(s.Held), code)
	}
}

// Promise 12.2, Ack and Nack: ErrNone of tags that nothing is held under.
func TestSettleErrNone(t *testing.T) {
	for _, s := range []api.Shard{busy(), frozen(busy()), New(), drained()} {
		for _, tag := range []int{0, 1, 2, 4, 5, 6, 8, 9, 10, -1, -3, -7, 256 + 3, 1<<32 + 3, 1 << 30, math.MaxInt, math.MinInt} {
			x, code := Ack(s, tag)
			y, other := Nack(s, tag)
			if code != api.ErrNone || other != api.ErrNone || !equal(x, s) || !equal(y, s) {
				t.Errorf("%d: %d, %d", tag, code, other)
			}
		}
	}
}

// The chapter's example: Put, Get, Nack, Get.
func TestAgain(t *testing.T) {
	s, _ := Put(New(), batch(2, "k", 1, 2))
	s, first, _ := Get(s)
	s, _ = Nack(s, first.Tag)
	s, second, code := Get(s)
	if first != (api.Held{Tag: 1, M: msg(2, 1, "k")}) || second != (api.Held{Tag: 2, M: again(2, 1, "k")}) || code != api.OK {
		t.Error(first, second, code)
	}
	s, _ = Ack(s, 2)
	if _, h, _ := Get(s); h != (api.Held{Tag: 3, M: msg(2, 2, "k")}) {
		t.Error("the one behind it:", h)
	}
}

// Promise 12.3, Freeze and Thaw: one and the other; ErrState, if it is so already.
func TestFreeze(t *testing.T) {
	for i, s := range good() {
		s.Frozen = false
		x, code := Freeze(s)
		if code != api.OK || !equal(x, frozen(s)) {
			t.Error(i, "frozen:", code)
		}
		if y, code := Freeze(x); code != api.ErrState || !equal(y, x) {
			t.Error(i, "frozen twice:", code)
		}
		y, code := Thaw(x)
		if code != api.OK || !equal(y, s) {
			t.Error(i, "thawed:", code)
		}
		if z, code := Thaw(y); code != api.ErrState || !equal(z, y) {
			t.Error(i, "thawed twice:", code)
		}
	}
}

// keyed is a frozen shard with two messages and a mark of each of many keys, and
// marks of more.
func keyed() api.Shard {
	s := api.Shard{Frozen: true, Next: 12}
	for i := range 24 {
		key := "key " + string(rune('a'+i))
		s.Ready = append(s.Ready, msg(i%4, 1, key), msg(i%4, 3, key))
		s.Marks = append(s.Marks, api.Mark{Pub: i % 4, Key: key, Seq: 4}, api.Mark{Pub: (i + 1) % 4, Key: key, Seq: 1})
	}
	s.Ready[7].Again = true
	return s
}

// Promise 12.3, Part: what has keys that are k's, in order; Next as it is, thawed.
func TestPart(t *testing.T) {
	quarters := []api.Arc{{From: 1 << 29, Shard: 4}, {From: 1 << 30, Shard: 0}, {From: 1 << 31, Shard: 15}, {From: 3 << 30, Shard: 4}}
	for i, arcs := range [][]api.Arc{halves(), quarters, {{From: 77, Shard: 3}}} {
		parts := 0
		for k := -1; k <= 17; k++ {
			want := api.Shard{Next: 12}
			for _, m := range keyed().Ready {
				if ownerOf(arcs, m.Key) == k {
					want.Ready = append(want.Ready, m)
				}
			}
			for _, m := range keyed().Marks {
				if ownerOf(arcs, m.Key) == k {
					want.Marks = append(want.Marks, m)
				}
			}
			x, code := Part(keyed(), arcs, k)
			if code != api.OK || !equal(x, want) || !May(x) {
				t.Errorf("%d, %d: %+v, %d", i, k, x, code)
			}
			parts += len(x.Ready) + len(x.Marks)
			if k == ownerOf(arcs, "key a") && (len(x.Ready) == 0 || len(x.Ready) == 48) != (i == 2) {
				t.Error(i, k, "has all or nothing")
			}
		}
		if parts != 48+48 {
			t.Error(i, "parts are more or less than the whole:", parts)
		}
	}
	if x, code := Part(frozen(New()), halves(), 0); code != api.OK || !equal(x, New()) {
		t.Errorf("of nothing: %+v, %d", x, code)
	}
}

// ownerOf is whose key's point is: of the arc whose From is the least way ahead.
func ownerOf(arcs []api.Arc, key string) int {
	k := 0
	for i, a := range arcs {
		if point.Of(key)-a.From < point.Of(key)-arcs[k].From {
			k = i
		}
	}
	return arcs[k].Shard
}

// Promise 12.3, Part: the key whose point an arc begins at is that arc's.
func TestPartAtEnd(t *testing.T) {
	p := point.Of("key")
	s := api.Shard{Frozen: true, Next: 2, Ready: []api.Msg{msg(0, 1, "key")}, Marks: []api.Mark{{Pub: 0, Key: "key", Seq: 1}}}
	for from, want := range map[uint32]int{p: 1, p + 1: 0, p - 1: 1} {
		for k := range 2 {
			x, code := Part(s, []api.Arc{{From: 0}, {From: from, Shard: 1}}, k)
			if code != api.OK || len(x.Ready) != len(x.Marks) || (len(x.Ready) == 1) != (k == want) {
				t.Error(from, k, x, code)
			}
		}
	}
}

// Promise 12.3, Part: ErrArg of arcs that may not be, ahead of ErrState; ErrState,
// unless it is frozen and nothing is held.
func TestPartRefused(t *testing.T) {
	wrong := [][]api.Arc{nil, {}, make([]api.Arc, 1025), {{From: 5}, {From: 5}}, {{From: 5}, {From: 4}}, {{Shard: 16}}, {{Shard: -1}}}
	for i, s := range []api.Shard{New(), busy(), frozen(busy()), drained(), frozen(drained()), keyed()} {
		for k := -1; k <= 16; k++ {
			for _, arcs := range wrong {
				if x, code := Part(s, arcs, k); code != api.ErrArg || !equal(x, s) {
					t.Errorf("%d: arcs that may not be: %+v, %d", i, x, code)
				}
			}
			want := api.ErrState
			if i >= 4 {
				want = api.OK
			}
			if x, code := Part(s, halves(), k); code != want || code != api.OK && !equal(x, s) {
				t.Errorf("%d: %+v, %d", i, x, code)
			}
		}
	}
}

// Rules 2 and 3: nothing that is handed in is changed, or shared with an answer;
// the same again gives the same.
func TestAnswersAreOwn(t *testing.T) {
	for i, s := range slices.Concat(good(), []api.Shard{keyed(), frozen(drained())}, bad()[:40]) {
		for k, turn := range turns() {
			in := roomy(s)
			x, code := turn(in)
			first := copyOf(x)
			if !equal(in, s) || !equal(roomyRest(in), api.Shard{}) {
				t.Fatal(i, k, "changed what it was given")
			}
			spoil(in)
			if !equal(x, first) {
				t.Fatal(i, k, "shares with what it was given")
			}
			spoil(x)
			if y, other := turn(s); other != code || !equal(y, first) {
				t.Fatal(i, k, "answers otherwise a second time")
			}
		}
	}
	l := batch(0, "z", 1, 3)
	x, _ := Put(busy(), l)
	clear(l)
	if !slices.Equal(x.Ready[7:], batch(0, "z", 1, 3)) {
		t.Error("a batch is shared")
	}
	if x := New(); x.Ready != nil && cap(x.Ready) > 0 {
		t.Error("New shares")
	}
}

// roomy is a copy of s whose lists have room behind them.
func roomy(s api.Shard) api.Shard {
	s.Ready = append(make([]api.Msg, 0, len(s.Ready)+9), s.Ready...)
	s.Held = append(make([]api.Held, 0, len(s.Held)+9), s.Held...)
	s.Marks = append(make([]api.Mark, 0, len(s.Marks)+9), s.Marks...)
	return s
}

// roomyRest is what lies behind the lists of what roomy made, unless nothing does.
func roomyRest(s api.Shard) api.Shard {
	var rest api.Shard
	for i := range 9 {
		if m := s.Ready[:cap(s.Ready)][len(s.Ready)+i]; m != (api.Msg{}) {
			rest.Ready = append(rest.Ready, m)
		}
		if h := s.Held[:cap(s.Held)][len(s.Held)+i]; h != (api.Held{}) {
			rest.Held = append(rest.Held, h)
		}
		if m := s.Marks[:cap(s.Marks)][len(s.Marks)+i]; m != (api.Mark{}) {
			rest.Marks = append(rest.Marks, m)
		}
	}
	return rest
}

// spoil changes all of s's lists, and what may lie behind them.
func spoil(s api.Shard) {
	for i := range s.Ready[:cap(s.Ready)] {
		s.Ready[:cap(s.Ready)][i] = api.Msg{Pub: 99, Seq: i, Key: "spoilt"}
	}
	for i := range s.Held[:cap(s.Held)] {
		s.Held[:cap(s.Held)][i] = api.Held{Tag: -i, M: api.Msg{Key: "spoilt"}}
	}
	for i := range s.Marks[:cap(s.Marks)] {
		s.Marks[:cap(s.Marks)][i] = api.Mark{Pub: 99, Seq: i, Key: "spoilt"}
	}
}
