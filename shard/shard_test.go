package shard

import (
	"math"
	"slices"
	"strings"
	"testing"

	"carrefour/api"
)

func msg(pub, seq int, key string) api.Msg {
	return api.Msg{Pub: pub, Seq: seq, Key: key, Body: key + "!"}
}

func again(pub, seq int, key string) api.Msg {
	m := msg(pub, seq, key)
	m.Again = true
	return m
}

// busy is a shard with some of everything: keys held and free, keys of several
// publishers, publishers under several keys, marks of what is settled.
func busy() api.Shard {
	return api.Shard{
		Next:  9,
		Ready: []api.Msg{msg(1, 5, "a"), msg(2, 1, "a"), msg(0, 3, "b"), msg(0, 1, "c"), msg(1, 7, "a"), again(3, 9, "d"), msg(1, 1, "c")},
		Held:  []api.Held{{Tag: 3, M: again(1, 4, "a")}, {Tag: 7, M: msg(0, 2, "b")}},
		Marks: []api.Mark{
			{Pub: 1, Key: "a", Seq: 7}, {Pub: 2, Key: "a", Seq: 1}, {Pub: 0, Key: "b", Seq: 5}, {Pub: 0, Key: "c", Seq: 1},
			{Pub: 3, Key: "d", Seq: 9}, {Pub: 3, Key: "gone", Seq: 4}, {Pub: 1, Key: "c", Seq: 1},
		},
	}
}

// filled is a shard of that many messages ready, all of publisher 1 and "key 0",
// of that many held, of publisher 0 and "key 0", "key 1" and so on, and of that
// many marks, of each publisher and key in turn.
func filled(ready, held, marks int) api.Shard {
	s := api.Shard{Next: 100}
	for i := range marks {
		s.Marks = append(s.Marks, api.Mark{Pub: i % 4, Key: "key " + string(rune('0'+i/4)), Seq: i + 1})
	}
	for i := range held {
		s.Held = append(s.Held, api.Held{Tag: i + 1, M: msg(0, i*4+1, "key "+string(rune('0'+i)))})
	}
	for i := range ready {
		s.Ready = append(s.Ready, msg(1, i+1, "key 0"))
	}
	if ready > 0 && marks > 1 {
		s.Marks[1].Seq = ready
	}
	return s
}

// changed is a copy of s that change was done to.
func changed(s api.Shard, change func(s *api.Shard)) api.Shard {
	s = copyOf(s)
	change(&s)
	return s
}

func copyOf(s api.Shard) api.Shard {
	return api.Shard{Frozen: s.Frozen, Next: s.Next, Ready: slices.Clone(s.Ready), Held: slices.Clone(s.Held), Marks: slices.Clone(s.Marks)}
}

func equal(a, b api.Shard) bool {
	return a.Frozen == b.Frozen && a.Next == b.Next && slices.Equal(a.Ready, b.Ready) && slices.Equal(a.Held, b.Held) && slices.Equal(a.Marks, b.Marks)
}

func frozen(s api.Shard) api.Shard {
	return changed(s, func(s *api.Shard) { s.Frozen = true })
}

// drained is busy without what is held.
func drained() api.Shard {
	return changed(busy(), func(s *api.Shard) { s.Held = nil })
}

// good are shards that may be.
func good() []api.Shard {
	var l []api.Shard
	add := func(s api.Shard, change func(s *api.Shard)) { l = append(l, changed(s, change)) }
	for _, s := range []api.Shard{{Next: 1}, busy(), drained(), filled(48, 0, 64), filled(0, 16, 64), filled(32, 16, 64), filled(1, 0, 2), filled(0, 0, 64)} {
		l = append(l, s, frozen(s))
	}
	for _, next := range []int{8, 10, 256, 1<<30 - 1, 1 << 30} {
		add(busy(), func(s *api.Shard) { s.Next = next })
	}
	add(busy(), func(s *api.Shard) { s.Held[0].Tag = 1 })
	add(busy(), func(s *api.Shard) { s.Held[0].Tag = 6 })
	add(busy(), func(s *api.Shard) { s.Held[1].Tag = 4 })
	add(busy(), func(s *api.Shard) { s.Held[1].Tag = 8 })
	add(busy(), func(s *api.Shard) { s.Next, s.Held[1].Tag = 1<<30, 1<<30-1 })
	add(busy(), func(s *api.Shard) { s.Held[0].M.Seq = 1 })
	add(busy(), func(s *api.Shard) { s.Held[1].M.Again = true })
	add(busy(), func(s *api.Shard) {
		s.Held[0].M.Pub, s.Held[0].M.Seq = 3, 1
		s.Marks[4].Key = "a"
		s.Ready[5].Key = "a"
	})
	add(busy(), func(s *api.Shard) { s.Ready[2].Seq = 5 })
	add(busy(), func(s *api.Shard) { s.Ready[0].Seq = 6 })
	add(busy(), func(s *api.Shard) { s.Ready[0].Again = true })
	add(busy(), func(s *api.Shard) { s.Ready[0].Body = strings.Repeat("x", 200) })
	add(busy(), func(s *api.Shard) { s.Ready[0].Body = "" })
	add(busy(), func(s *api.Shard) { s.Marks[5].Key = strings.Repeat("x", 20) })
	add(busy(), func(s *api.Shard) { s.Marks[5].Key = "\x00" })
	add(busy(), func(s *api.Shard) { s.Marks[5].Seq = 1 << 30 })
	add(busy(), func(s *api.Shard) { s.Marks[5].Pub = 0 })
	add(busy(), func(s *api.Shard) { slices.Reverse(s.Marks) })
	add(busy(), func(s *api.Shard) { s.Ready[0], s.Ready[1] = s.Ready[1], s.Ready[0] })
	add(busy(), func(s *api.Shard) { s.Ready = nil })
	add(busy(), func(s *api.Shard) { s.Ready, s.Held = nil, nil })
	add(busy(), func(s *api.Shard) { s.Ready, s.Held, s.Marks = []api.Msg{}, []api.Held{}, []api.Mark{} })
	return l
}

// wrongStands are a Pub, Seq and Key of which one is out of range.
func wrongStands() []api.Mark {
	var l []api.Mark
	for _, pub := range []int{-1, 4, 5, 16, 256, 1 << 32, math.MaxInt, math.MinInt} {
		l = append(l, api.Mark{Pub: pub, Seq: 7, Key: "a"})
	}
	for _, seq := range []int{0, -1, 1<<30 + 1, 1 << 31, 1 << 32, 1<<32 + 1, math.MaxInt, math.MinInt} {
		l = append(l, api.Mark{Pub: 1, Seq: seq, Key: "a"})
	}
	for _, key := range []string{"", strings.Repeat("x", 21), strings.Repeat("x", 256), strings.Repeat("é", 11)} {
		l = append(l, api.Mark{Pub: 1, Seq: 7, Key: key})
	}
	return l
}

// wrongMsgs are messages that may not be, for one reason each.
func wrongMsgs() []api.Msg {
	var l []api.Msg
	for _, m := range wrongStands() {
		l = append(l, api.Msg{Pub: m.Pub, Seq: m.Seq, Key: m.Key, Body: "b"})
	}
	for _, n := range []int{201, 256, 257, 1 << 16} {
		l = append(l, api.Msg{Pub: 1, Seq: 7, Key: "a", Body: strings.Repeat("x", n)})
	}
	return append(l, api.Msg{})
}

// bad are shards that may not be, for one reason each.
func bad() []api.Shard {
	var l []api.Shard
	add := func(s api.Shard, change func(s *api.Shard)) { l = append(l, changed(s, change)) }
	for _, next := range []int{0, -1, 1<<30 + 1, 1 << 31, 1 << 32, 1<<32 + 9, math.MaxInt, math.MinInt} {
		add(drained(), func(s *api.Shard) { s.Next = next })
		add(New(), func(s *api.Shard) { s.Next = next })
	}
	for _, next := range []int{7, 6, 4, 3, 2, 1} { // no more than a tag
		add(busy(), func(s *api.Shard) { s.Next = next })
	}
	for _, m := range wrongStands() {
		add(busy(), func(s *api.Shard) { s.Marks[5] = m })
	}
	for _, m := range wrongMsgs() {
		add(busy(), func(s *api.Shard) { s.Ready[4] = m })
		add(busy(), func(s *api.Shard) { s.Held[1].M = m })
		// As if it had its mark.
		add(busy(), func(s *api.Shard) { s.Ready[4], s.Marks[0] = m, api.Mark{Pub: m.Pub, Seq: m.Seq, Key: m.Key} })
		add(api.Shard{Next: 2}, func(s *api.Shard) {
			s.Ready, s.Marks = []api.Msg{m}, []api.Mark{{Pub: m.Pub, Seq: m.Seq, Key: m.Key}}
		})
		add(api.Shard{Next: 2}, func(s *api.Shard) {
			s.Held, s.Marks = []api.Held{{Tag: 1, M: m}}, []api.Mark{{Pub: m.Pub, Seq: m.Seq, Key: m.Key}}
		})
	}
	for _, tag := range []int{0, -1, math.MinInt, 7, 8, 1 << 40} { // tags rise
		add(busy(), func(s *api.Shard) { s.Held[0].Tag = tag })
	}
	for _, tag := range []int{3, 2, 0, -7, 9, 10, 1<<32 + 4, math.MaxInt} {
		add(busy(), func(s *api.Shard) { s.Held[1].Tag = tag })
	}
	add(filled(0, 16, 64), func(s *api.Shard) { s.Held[15].Tag = 15 })
	add(filled(0, 16, 64), func(s *api.Shard) { s.Held[8].Tag, s.Held[9].Tag = 10, 9 })
	// Two held of one key, of one publisher or of two.
	add(busy(), func(s *api.Shard) { s.Held[1].M = msg(2, 1, "a"); s.Ready = s.Ready[2:] })
	add(busy(), func(s *api.Shard) { s.Held[1].M = msg(1, 5, "a"); s.Ready = s.Ready[2:] })
	add(filled(0, 16, 64), func(s *api.Shard) { s.Held[15].M = msg(3, 1, s.Held[0].M.Key) })
	// Marks of one Pub and Key.
	add(busy(), func(s *api.Shard) { s.Marks[6] = s.Marks[0] })
	add(busy(), func(s *api.Shard) { s.Marks = append(s.Marks, api.Mark{Pub: 3, Key: "gone", Seq: 5}) })
	add(filled(0, 0, 64), func(s *api.Shard) { s.Marks[63].Pub, s.Marks[63].Key = s.Marks[0].Pub, s.Marks[0].Key })
	// Messages without a mark, or above it.
	for k := range busy().Marks {
		if k != 5 {
			add(busy(), func(s *api.Shard) { s.Marks = slices.Delete(s.Marks, k, k+1) })
		}
	}
	add(busy(), func(s *api.Shard) { s.Marks[0].Seq = 6 })
	add(busy(), func(s *api.Shard) { s.Marks[2].Seq = 2 })
	add(busy(), func(s *api.Shard) { s.Marks[4].Seq = 8 })
	add(busy(), func(s *api.Shard) { s.Ready, s.Marks[0].Seq = nil, 3 })
	add(busy(), func(s *api.Shard) { s.Marks[3].Key = "e" })
	add(busy(), func(s *api.Shard) { s.Marks[3].Pub = 2 })
	// Seqs that don't rise.
	add(busy(), func(s *api.Shard) { s.Ready[0].Seq = 7 })
	add(busy(), func(s *api.Shard) { s.Ready[4].Seq = 5 })
	add(busy(), func(s *api.Shard) { s.Ready[0], s.Ready[4] = s.Ready[4], s.Ready[0] })
	add(busy(), func(s *api.Shard) { s.Held[0].M.Seq = 5 })
	add(busy(), func(s *api.Shard) { s.Held[0].M.Seq = 6 })
	add(busy(), func(s *api.Shard) { s.Held[1].M.Seq = 3 })
	add(busy(), func(s *api.Shard) { s.Held[1].M.Seq = 4 })
	// Too many, of one reason each.
	l = append(l, filled(49, 0, 64), filled(33, 16, 64), filled(48, 1, 64), filled(1<<10, 0, 64), filled(0, 0, 65), filled(0, 0, 256))
	return append(l, api.Shard{}, api.Shard{Frozen: true})
}

// Promise 12.1, MayMsg: each part up to its ends, and no further.
func TestMayMsg(t *testing.T) {
	for pub := range 4 {
		for _, seq := range []int{1, 2, 255, 256, 1<<30 - 1, 1 << 30} {
			for _, n := range []int{1, 2, 19, 20} {
				for _, body := range []int{0, 1, 199, 200} {
					m := api.Msg{Pub: pub, Seq: seq, Key: strings.Repeat("\xff", n), Body: strings.Repeat("\x00", body)}
					again := m
					again.Again = true
					if !MayMsg(m) || !MayMsg(again) {
						t.Fatalf("%+v may not be", m)
					}
				}
			}
		}
	}
	for i, m := range wrongMsgs() {
		again := m
		again.Again = true
		if MayMsg(m) || MayMsg(again) {
			t.Errorf("%d: %+v may be", i, m)
		}
	}
}

// Promise 12.1, May.
func TestMay(t *testing.T) {
	for i, s := range good() {
		if !May(s) || !lawful(s) {
			t.Errorf("good %d may not be: %+v", i, s)
		}
	}
	for i, s := range bad() {
		if May(s) || lawful(s) {
			t.Errorf("bad %d may be: %+v", i, s)
		}
	}
}

// Promise 12.1, May: 48 messages, held ones too, and 64 marks.
func TestMayCount(t *testing.T) {
	for held := range 17 {
		for ready := range 60 {
			if May(filled(ready, held, 64)) != (ready+held <= 48) {
				t.Error(ready, "ready,", held, "held")
			}
		}
	}
	for marks := range 80 {
		if May(filled(0, 0, marks)) != (marks <= 64) {
			t.Error(marks, "marks")
		}
	}
}

// stand is whose a message is, and where.
type stand struct {
	pub int
	key string
}

func standOf(m api.Msg) stand { return stand{m.Pub, m.Key} }

// lawful is May as the chapter's words have it, one after the other.
func lawful(s api.Shard) bool {
	marks := map[stand]int{}
	for _, m := range s.Marks {
		if marks[stand{m.Pub, m.Key}] != 0 || !MayMsg(api.Msg{Pub: m.Pub, Seq: m.Seq, Key: m.Key}) {
			return false
		}
		marks[stand{m.Pub, m.Key}] = m.Seq
	}
	keys, l := map[string]bool{}, slices.Clone(s.Ready)
	for i, h := range s.Held {
		if h.Tag < 1 || h.Tag >= s.Next || i > 0 && s.Held[i-1].Tag >= h.Tag || keys[h.M.Key] {
			return false
		}
		for _, m := range s.Ready {
			if standOf(m) == standOf(h.M) && m.Seq <= h.M.Seq {
				return false
			}
		}
		keys[h.M.Key] = true
		l = append(l, h.M)
	}
	for i, m := range l {
		if !MayMsg(m) || marks[standOf(m)] < m.Seq {
			return false
		}
		for _, behind := range s.Ready[min(i+1, len(s.Ready)):] {
			if standOf(m) == standOf(behind) && behind.Seq <= m.Seq {
				return false
			}
		}
	}
	return s.Next >= 1 && s.Next <= 1<<30 && len(l) <= 48 && len(s.Marks) <= 64
}

// few are all lists of up to n of the messages.
func few(l []api.Msg, n int) [][]api.Msg {
	lists := [][]api.Msg{nil}
	for i := 0; i < len(lists); i++ {
		if len(lists[i]) < n {
			for _, m := range l {
				lists = append(lists, append(slices.Clone(lists[i]), m))
			}
		}
	}
	return lists
}

// Promise 12.1, May: held against its words, for all small shards.
func TestMayOfAll(t *testing.T) {
	var l []api.Msg
	for pub := range 2 {
		for _, key := range []string{"a", "b"} {
			for seq := 1; seq <= 2; seq++ {
				l = append(l, msg(pub, seq, key))
			}
		}
	}
	marks := [][]api.Mark{
		{{Pub: 0, Key: "a", Seq: 2}, {Pub: 0, Key: "b", Seq: 1}, {Pub: 1, Key: "a", Seq: 2}, {Pub: 1, Key: "b", Seq: 2}},
		{{Pub: 1, Key: "b", Seq: 2}, {Pub: 0, Key: "a", Seq: 9}, {Pub: 1, Key: "a", Seq: 1}},
		{{Pub: 1, Key: "b", Seq: 2}, {Pub: 0, Key: "a", Seq: 2}, {Pub: 1, Key: "b", Seq: 3}},
	}
	may, not := 0, 0
	for _, ready := range few(l, 3) {
		for _, held := range few(l, 2) {
			for i := range marks {
				s := api.Shard{Next: 3, Ready: ready, Marks: marks[i]}
				for k, m := range held {
					s.Held = append(s.Held, api.Held{Tag: k + 1, M: m})
				}
				want := lawful(s)
				if May(s) != want {
					t.Fatalf("%+v: %v", s, !want)
				}
				if want {
					may++
				} else {
					not++
				}
			}
		}
	}
	if may < 500 || not < 500 {
		t.Error(may, "may be,", not, "may not")
	}
}

// Promise 12.1, New.
func TestNew(t *testing.T) {
	if s := New(); !equal(s, api.Shard{Next: 1}) || !May(s) {
		t.Errorf("%+v", s)
	}
}

// Promise 12.1, Last: that mark's Seq, or 0.
func TestLast(t *testing.T) {
	for i, s := range append(good(), busy()) {
		for _, m := range s.Marks {
			if n := Last(s, m.Pub, m.Key); n != m.Seq {
				t.Errorf("good %d: %d, not %+v", i, n, m)
			}
		}
	}
	for _, x := range []stand{{0, "a"}, {3, "a"}, {2, "b"}, {1, "gone"}, {3, "gon"}, {3, "gone "}, {3, ""}, {-1, "a"}, {5, "a"}, {math.MaxInt, "a"}, {1 << 32, "b"}} {
		if n := Last(busy(), x.pub, x.key); n != 0 {
			t.Errorf("%+v: %d", x, n)
		}
		if n := Last(New(), x.pub, x.key); n != 0 {
			t.Errorf("%+v of nothing: %d", x, n)
		}
	}
}

// Promise 12.3, Same: each part counts, and no list's being nil.
func TestSame(t *testing.T) {
	for i, a := range slices.Concat(good(), bad()) {
		if !Same(a, copyOf(a)) {
			t.Error(i, "is not the same as itself")
		}
	}
	for i, change := range []func(s *api.Shard){
		func(s *api.Shard) { s.Frozen = true },
		func(s *api.Shard) { s.Next++ },
		func(s *api.Shard) { s.Ready = nil },
		func(s *api.Shard) { s.Ready = s.Ready[1:] },
		func(s *api.Shard) { s.Ready = s.Ready[:6] },
		func(s *api.Shard) { s.Ready[6].Pub = 2 },
		func(s *api.Shard) { s.Ready[6].Seq++ },
		func(s *api.Shard) { s.Ready[6].Key = "d" },
		func(s *api.Shard) { s.Ready[6].Body = "" },
		func(s *api.Shard) { s.Ready[6].Again = true },
		func(s *api.Shard) { s.Ready[0], s.Ready[1] = s.Ready[1], s.Ready[0] },
		func(s *api.Shard) { s.Held = nil },
		func(s *api.Shard) { s.Held = s.Held[:1] },
		func(s *api.Shard) { s.Held[0].Tag++ },
		func(s *api.Shard) { s.Held[0].M.Again = false },
		func(s *api.Shard) { s.Held[1].M.Seq++ },
		func(s *api.Shard) { s.Marks = nil },
		func(s *api.Shard) { s.Marks = s.Marks[:6] },
		func(s *api.Shard) { s.Marks[0].Pub++ },
		func(s *api.Shard) { s.Marks[0].Seq++ },
		func(s *api.Shard) { s.Marks[0].Key += "a" },
		func(s *api.Shard) { slices.Reverse(s.Marks) },
	} {
		if x := changed(busy(), change); Same(x, busy()) || Same(busy(), x) {
			t.Error(i, "is the same")
		}
	}
	none := api.Shard{Ready: []api.Msg{}, Held: []api.Held{}, Marks: []api.Mark{}}
	if !Same(none, api.Shard{}) || !Same(api.Shard{}, none) {
		t.Error("nil and empty")
	}
}
