package own

import (
	"slices"
	"testing"

	"carrefour/api"
)

// busy is a shard with some of everything; its lists have room behind them.
func busy() api.Shard {
	s := api.Shard{Frozen: true, Next: 9, Ready: make([]api.Msg, 0, 9), Held: make([]api.Held, 0, 9), Marks: make([]api.Mark, 0, 9)}
	s.Ready = append(s.Ready, api.Msg{Pub: 1, Seq: 5, Key: "a", Body: "hi", Again: true}, api.Msg{Pub: 2, Seq: 1, Key: "b"})
	s.Held = append(s.Held, api.Held{Tag: 3, M: api.Msg{Pub: 1, Seq: 4, Key: "a"}})
	s.Marks = append(s.Marks, api.Mark{Pub: 1, Key: "a", Seq: 5}, api.Mark{Pub: 2, Key: "b", Seq: 1})
	return s
}

func equal(a, b api.Shard) bool {
	return a.Frozen == b.Frozen && a.Next == b.Next && slices.Equal(a.Ready, b.Ready) && slices.Equal(a.Held, b.Held) && slices.Equal(a.Marks, b.Marks)
}

func TestShard(t *testing.T) {
	s := busy()
	x := Shard(s)
	if !equal(x, busy()) {
		t.Errorf("%+v", x)
	}
	x.Ready[0].Key, x.Held[0].Tag, x.Marks[0].Seq = "z", 8, 8
	x.Ready, x.Held, x.Marks = append(x.Ready, api.Msg{Pub: 3}), append(x.Held, api.Held{Tag: 5}), append(x.Marks, api.Mark{Pub: 3})
	if !equal(s, busy()) || s.Ready[:3][2] != (api.Msg{}) || s.Held[:2][1] != (api.Held{}) || s.Marks[:3][2] != (api.Mark{}) {
		t.Errorf("shared: %+v", s)
	}
	if x := Shard(api.Shard{}); !equal(x, api.Shard{}) {
		t.Errorf("nothing: %+v", x)
	}
}
