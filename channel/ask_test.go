package channel

import (
	"slices"
	"strconv"
	"strings"
	"testing"

	"carrefour/api"
)

func long(n int) string { return strings.Repeat("n", n) }

// many does f of the numbers below n.
func many(n int, f func(i int) api.Method) []turn {
	var l []turn
	for i := range n {
		l = append(l, ask(f(i)))
	}
	return l
}

// Promises 16.1, 16.3, ExDeclare: the types' words, as they are written.
func TestExDeclareType(t *testing.T) {
	for _, word := range []string{"direct", "fanout", "topic", "x-consistent-hash"} {
		c := with(t)
		answered(t, c, api.Method{Id: api.ExDeclare, Name: "e", Type: word}, api.Method{Id: api.ExDeclareOk})
		answered(t, c, api.Method{Id: api.ExDeclare, Name: "e", Type: word}, api.Method{Id: api.ExDeclareOk})
		if l, code := c.Routes("e", "k"); code != api.OK || len(l) != 0 {
			t.Error(word, l, code)
		}
	}
	for _, word := range []string{"", "headers", "Direct", "direct ", "hash", "consistent-hash", "x-consistent-hash\x00", "1", "x"} {
		for _, name := range []string{"e", "", long(41), "d"} { // ahead of what the Name is
			refused(t, full(t), api.Method{Id: api.ExDeclare, Name: name, Type: word}, api.CommandBad)
		}
	}
}

// Promise 16.1: an exchange is of the kind that was declared.
func TestExDeclareKind(t *testing.T) {
	for _, x := range []struct {
		word string
		want []string
	}{{"direct", []string{"r"}}, {"fanout", []string{"q", "r", "s"}}, {"topic", []string{"q", "r"}}, {"x-consistent-hash", []string{"r"}}} {
		c := with(t, asks(
			api.Method{Id: api.QDeclare, Name: "q"}, api.Method{Id: api.QDeclare, Name: "r"}, api.Method{Id: api.QDeclare, Name: "s"},
			api.Method{Id: api.ExDeclare, Name: "e", Type: x.word},
			api.Method{Id: api.QBind, Name: "q", Ex: "e", Key: "a.#"},
			api.Method{Id: api.QBind, Name: "r", Ex: "e", Key: "a.b"},
			api.Method{Id: api.QBind, Name: "s", Ex: "e", Key: "b"},
		)...)
		l, code := c.Routes("e", "a.b")
		if code != api.OK || x.word != "x-consistent-hash" && !slices.Equal(l, x.want) || len(l) != len(x.want) {
			t.Error(x.word, l, code)
		}
	}
}

// Promises 16.1, 16.3, ExDeclare: Precond of a Name that may not be, of one that is
// of another kind, and of a 17th.
func TestExDeclarePrecond(t *testing.T) {
	for _, name := range []string{"", long(41), long(255)} {
		refused(t, full(t), api.Method{Id: api.ExDeclare, Name: name, Type: "topic"}, api.Precond)
	}
	for _, word := range []string{"fanout", "topic", "x-consistent-hash"} {
		refused(t, full(t), api.Method{Id: api.ExDeclare, Name: "d", Type: word}, api.Precond)
	}
	c := with(t, many(16, func(i int) api.Method {
		return api.Method{Id: api.ExDeclare, Name: long(25 + i), Type: "topic"}
	})...)
	answered(t, c, api.Method{Id: api.ExDeclare, Name: long(40), Type: "topic"}, api.Method{Id: api.ExDeclareOk})
	refused(t, c, api.Method{Id: api.ExDeclare, Name: "e", Type: "topic"}, api.Precond)
}

// Promises 16.1, 16.3, QDeclare: how many queues there are; Precond of a Name that
// may not be, and of a 17th.
func TestQDeclare(t *testing.T) {
	for _, name := range []string{"", long(41), long(255)} {
		refused(t, full(t), api.Method{Id: api.QDeclare, Name: name}, api.Precond)
	}
	c := with(t)
	var l []string
	for i := range 16 {
		name := long(40 - i)
		l = append(l, name)
		for range 2 {
			answered(t, c, api.Method{Id: api.QDeclare, Name: name}, api.Method{Id: api.QDeclareOk, Name: name, Count: i + 1})
		}
		answered(t, c, api.Method{Id: api.QDeclare, Name: l[0]}, api.Method{Id: api.QDeclareOk, Name: l[0], Count: i + 1})
		if got := c.Queues(); !slices.Equal(got, l) {
			t.Fatal(got, "not", l)
		}
	}
	refused(t, c, api.Method{Id: api.QDeclare, Name: "more"}, api.Precond)
}

// Promises 16.1, 16.3, QBind: NotFound of no such queue, of no such exchange.
func TestQBindNotFound(t *testing.T) {
	for _, m := range []api.Method{
		{Name: "z", Ex: "d", Key: "k"}, {Name: "z", Ex: "z"}, {Name: "", Ex: "d"}, {Name: "q", Ex: "z"}, {Name: "q", Ex: ""},
		{Name: "z", Ex: "t", Key: "a#"}, {Name: "q", Ex: "z", Args: weighed(9)}, {Name: "d", Ex: "d"},
	} {
		m.Id = api.QBind
		refused(t, full(t), m, api.NotFound)
	}
}

// Promises 16.1, 16.3, QBind: route.Bind's codes.
func TestQBindPrecond(t *testing.T) {
	bind := api.Method{Id: api.QBind, Name: "q", Ex: "d", Key: "k"}
	c := full(t)
	answered(t, c, bind, api.Method{Id: api.QBindOk}) // it is there
	if l, _ := c.Routes("d", "k"); !slices.Equal(l, []string{"q"}) {
		t.Error(l)
	}
	refused(t, full(t), api.Method{Id: api.QBind, Name: "q", Ex: "t", Key: "a#"}, api.Precond)
	for _, key := range []string{"", "a.#", "#", long(255)} {
		answered(t, c, api.Method{Id: api.QBind, Name: "r", Ex: "t", Key: key}, api.Method{Id: api.QBindOk})
	}
	for i := range 64 - 5 {
		answered(t, c, api.Method{Id: api.QBind, Name: "r", Ex: "d", Key: strconv.Itoa(i)}, api.Method{Id: api.QBindOk})
	}
	answered(t, c, bind, api.Method{Id: api.QBindOk})
	refused(t, c, api.Method{Id: api.QBind, Name: "r", Ex: "d", Key: "more"}, api.Precond)
}

// item is a field of Args.
func item(name string, kind int, n int64) api.Item {
	return api.Item{Name: name, V: api.Value{Kind: kind, N: n}}
}

// argsWithout have no weight that is a VInt.
func argsWithout() [][]api.Item {
	return [][]api.Item{
		nil, {}, {item("weight", api.VLong, 4)}, {item("weight", api.VBool, 1)}, {item("weight", api.VNone, 0)},
		{{Name: "weight", V: api.Value{Kind: api.VText, S: "4"}}}, {item("Weight", api.VInt, 4)}, {item("x-weight", api.VInt, 4)},
		{{Name: "weight", V: api.Value{Kind: api.VTable, Items: weighed(4)}}}, {{Name: "a", V: api.Value{Kind: api.VTable, Items: weighed(4)}}},
	}
}

// Promises 16.1, 16.3, QBind: the weight of a binding to a Hash; one that is alike
// but for it is Precond.
func TestQBindWeight(t *testing.T) {
	again := func(ex string, a, b []api.Item, ok bool) {
		t.Helper()
		c := full(t)
		answered(t, c, api.Method{Id: api.QBind, Name: "q", Ex: ex, Args: a}, api.Method{Id: api.QBindOk})
		if m := (api.Method{Id: api.QBind, Name: "q", Ex: ex, Args: b}); ok {
			answered(t, c, m, api.Method{Id: api.QBindOk})
		} else {
			refused(t, c, m, api.Precond)
		}
	}
	for n := 1; n <= api.MaxWeight; n++ {
		for o := 1; o <= api.MaxWeight; o++ {
			again("h", weighed(n), weighed(o), n == o)
			again("h", weighed(n), append([]api.Item{item("a", api.VInt, 1)}, weighed(o)...), n == o)
			again("d", weighed(n), weighed(o), true) // it has none
		}
		for _, l := range argsWithout() {
			again("h", l, weighed(n), n == 1)
			again("h", weighed(n), l, n == 1)
			again("t", weighed(n), l, true)
		}
	}
	for _, n := range []int{0, -1, 5, 1 << 30, -1 << 31} {
		refused(t, full(t), api.Method{Id: api.QBind, Name: "q", Ex: "h", Args: weighed(n)}, api.Precond)
		answered(t, full(t), api.Method{Id: api.QBind, Name: "q", Ex: "d", Args: weighed(n)}, api.Method{Id: api.QBindOk})
	}
}

// Promises 16.1, 16.3: Qos says how many may be given at a time.
func TestQos(t *testing.T) {
	for _, n := range []int{0, 1, 2, 65534, 65535} {
		c := with(t, ask(api.Method{Id: api.Qos, Count: 9}), give(api.Method{Id: api.GetOk, Tag: 1}))
		answered(t, c, api.Method{Id: api.Qos, Count: n}, api.Method{Id: api.QosOk})
		most := n
		if n == 0 {
			most = 1000
		}
		for i := 1; i < most; i++ {
			if _, code := c.Give(api.Method{Id: api.GetOk, Tag: uint64(i) + 1}); code != api.OK {
				t.Fatal(n, i, code)
			}
		}
		if _, code := c.Give(api.Method{Id: api.GetOk, Tag: 1 << 40}); code != api.ErrFull {
			t.Error(n, code)
		}
	}
	for _, n := range []int{65536, 65537, 1 << 31, 1<<32 - 1} {
		refused(t, full(t), api.Method{Id: api.Qos, Count: n}, api.Precond)
	}
}

// Promises 16.1, 16.3, Consume: NotFound ahead of NotAllowed.
func TestConsume(t *testing.T) {
	for _, m := range []api.Method{{Name: "z", Text: "new"}, {Name: "z", Text: "c"}, {Name: "", Text: "new"}, {Name: "d", Text: "new"}} {
		m.Id = api.Consume
		refused(t, full(t), m, api.NotFound)
	}
	for _, name := range []string{"q", "r"} {
		refused(t, full(t), api.Method{Id: api.Consume, Name: name, Text: "c"}, api.NotAllowed)
	}
	c := with(t, ask(api.Method{Id: api.QDeclare, Name: "q"}))
	for i := range 16 { // the first one's tag is empty
		answered(t, c, api.Method{Id: api.Consume, Name: "q", Text: long(i * 17)}, api.Method{Id: api.ConsumeOk, Text: long(i * 17)})
	}
	for i := range 16 {
		if m, code := c.Give(api.Method{Id: api.Deliver, Tag: uint64(i) + 1, Text: long(i * 17)}); code != api.OK || m.Text != long(i*17) {
			t.Error(i, m, code)
		}
	}
	refused(t, c, api.Method{Id: api.Consume, Name: "q", Text: "new"}, api.NotAllowed)
	refused(t, with(t, ask(api.Method{Id: api.QDeclare, Name: "q"}), ask(api.Method{Id: api.Consume, Name: "q"})), api.Method{Id: api.Consume, Name: "q"}, api.NotAllowed)
}

// Promises 16.1, 16.3, Get: what is there is another's to say.
func TestGet(t *testing.T) {
	answered(t, full(t), api.Method{Id: api.Get, Name: "q"}, api.Method{Id: api.GetEmpty})
	for _, name := range []string{"", "z", "d", "Q"} {
		refused(t, full(t), api.Method{Id: api.Get, Name: name}, api.NotFound)
	}
}

// Promises 16.1, 16.3, Publish: what finds no queue comes back, if that is asked for,
// with confirms and transactions, too.
func TestPublish(t *testing.T) {
	for _, first := range [][]turn{nil, asks(api.Method{Id: api.TxSelect}), asks(api.Method{Id: api.Select})} {
		c := with(t, append(first, asks(
			api.Method{Id: api.QDeclare, Name: "q"},
			api.Method{Id: api.ExDeclare, Name: "d", Type: "direct"},
			api.Method{Id: api.QBind, Name: "q", Ex: "d", Key: "k"})...)...)
		for _, x := range []struct {
			ex, key string
			found   bool
		}{{"d", "k", true}, {"d", "l", false}, {"d", "", false}, {"", "q", true}, {"", "k", false}, {"", "", false}, {"", long(255), false}} {
			m := api.Method{Id: api.Publish, Ex: x.ex, Key: x.key}
			answered(t, c, m)
			m.Flag = true
			if x.found {
				answered(t, c, m)
			} else {
				answered(t, c, m, api.Method{Id: api.Return, Code: 312, Ex: x.ex, Key: x.key})
			}
		}
	}
	for _, flag := range []bool{false, true} {
		for _, ex := range []string{"z", "q", long(255)} {
			refused(t, full(t), api.Method{Id: api.Publish, Ex: ex, Key: "k", Flag: flag}, api.NotFound)
		}
	}
}

// Promises 16.1, 16.3: what is not open can't be settled.
func TestSettlePrecond(t *testing.T) {
	for _, m := range []api.Method{
		{Id: api.Ack}, {Id: api.Ack, Tag: 3}, {Id: api.Ack, Tag: 6}, {Id: api.Ack, Tag: 3, Flag: true},
		{Id: api.Nack}, {Id: api.Nack, Back: true}, {Id: api.Nack, Tag: 6}, {Id: api.Nack, Tag: 3, Flag: true, Back: true},
		{Id: api.Reject}, {Id: api.Reject, Flag: true}, {Id: api.Reject, Tag: 6}, {Id: api.Reject, Tag: 6, Flag: true}, {Id: api.Reject, Tag: 1<<64 - 1, Flag: true},
	} {
		refused(t, full(t), m, api.Precond)
	}
}

// Promise 16.1: Ack and Nack settle one or all up to it, Reject one alone.
func TestSettle(t *testing.T) {
	for _, x := range []struct {
		m    api.Method
		left []uint64
	}{
		{api.Method{Id: api.Ack, Tag: 4}, []uint64{2, 7}}, {api.Method{Id: api.Ack, Tag: 4, Flag: true}, []uint64{7}},
		{api.Method{Id: api.Ack, Tag: 5, Flag: true}, []uint64{7}}, {api.Method{Id: api.Ack, Flag: true}, nil},
		{api.Method{Id: api.Nack, Tag: 4}, []uint64{2, 7}}, {api.Method{Id: api.Nack, Tag: 4, Back: true}, []uint64{2, 7}},
		{api.Method{Id: api.Nack, Tag: 4, Flag: true}, []uint64{7}}, {api.Method{Id: api.Nack, Flag: true, Back: true}, nil},
		{api.Method{Id: api.Reject, Tag: 4}, []uint64{2, 7}}, {api.Method{Id: api.Reject, Tag: 4, Flag: true}, []uint64{2, 7}},
		{api.Method{Id: api.Reject, Tag: 7, Flag: true}, []uint64{2, 4}},
	} {
		for tag := range uint64(9) {
			c := with(t, give(api.Method{Id: api.GetOk, Tag: 2}), give(api.Method{Id: api.GetOk, Tag: 4}), give(api.Method{Id: api.GetOk, Tag: 7}))
			answered(t, c, x.m)
			if m := (api.Method{Id: api.Ack, Tag: tag}); slices.Contains(x.left, tag) {
				answered(t, c, m)
			} else {
				refused(t, c, m, api.Precond)
			}
		}
	}
	c := with(t)
	answered(t, c, api.Method{Id: api.Ack, Flag: true})
	answered(t, c, api.Method{Id: api.Nack, Flag: true, Back: true})
}

// Promises 16.1, 16.3: confirms or transactions, not both.
func TestModes(t *testing.T) {
	asked, tx := api.Method{Id: api.Select}, api.Method{Id: api.TxSelect}
	commit, rollback := api.Method{Id: api.TxCommit}, api.Method{Id: api.TxRollback}
	c := with(t)
	for range 2 {
		answered(t, c, tx, api.Method{Id: api.TxSelectOk})
		answered(t, c, commit, api.Method{Id: api.TxCommitOk})
		answered(t, c, rollback, api.Method{Id: api.TxRollOk})
	}
	refused(t, c, asked, api.Precond)
	for _, m := range []api.Method{tx, commit, rollback} {
		c := with(t)
		answered(t, c, asked, api.Method{Id: api.SelectOk})
		answered(t, c, asked, api.Method{Id: api.SelectOk})
		refused(t, c, m, api.Precond)
	}
	refused(t, with(t), commit, api.Precond)
	refused(t, with(t), rollback, api.Precond)
}

// Promise 16.1: what was settled stays so, whatever the transaction comes to; and
// what was published, declared and bound.
func TestRollback(t *testing.T) {
	c := with(t, append(asks(api.Method{Id: api.TxSelect}, api.Method{Id: api.QDeclare, Name: "q"}),
		give(api.Method{Id: api.GetOk, Tag: 1}), ask(api.Method{Id: api.Ack, Tag: 1}), ask(api.Method{Id: api.TxRollback}))...)
	if l := c.Queues(); !slices.Equal(l, []string{"q"}) {
		t.Error(l)
	}
	refused(t, c, api.Method{Id: api.Ack, Tag: 1}, api.Precond)
}

// Promises 16.2, 16.3, Give: the codes, in their order; and nothing changes.
func TestGive(t *testing.T) {
	may := []api.Method{{Id: api.GetOk, Tag: 6, Ex: "e", Key: "k", Flag: true, Count: 1<<32 - 1}, {Id: api.Deliver, Tag: 6, Text: "c", Ex: "e", Key: "k"}}
	c := full(t)
	for _, id := range all() {
		if id == api.GetOk || id == api.Deliver {
			continue
		}
		for _, c := range []*Channel{c, New()} { // ahead of ErrState
			if m, code := c.Give(api.Method{Id: id}); code != api.ErrArg || m.Id != 0 {
				t.Error(id, m, code)
			}
		}
	}
	for i, m := range append(wrong(),
		api.Method{Id: api.GetOk, Tag: 6, Text: "c"}, api.Method{Id: api.GetOk, Tag: 6, Count: -1}, api.Method{Id: api.Deliver, Tag: 6, Text: "c", Count: 1},
		api.Method{Id: api.Deliver, Tag: 6, Text: long(256)}, api.Method{Id: api.Deliver, Tag: 6, Text: "c", Args: []api.Item{{}}},
		api.Method{Id: api.GetOk, Tag: 5}, api.Method{Id: api.GetOk}, api.Method{Id: api.Deliver, Text: "c", Tag: 5}, api.Method{Id: api.Deliver, Text: "c"}) {
		if got, code := c.Give(m); code != api.ErrArg || got.Id != 0 {
			t.Error(i, got, code)
		}
		if got, code := New().Give(m); i < len(wrong()) && (code != api.ErrArg || got.Id != 0) {
			t.Error(i, got, code)
		}
	}
	for _, m := range []api.Method{{Id: api.Deliver, Tag: 6, Text: "d"}, {Id: api.Deliver, Tag: 6}, {Id: api.Deliver, Text: "q"}} { // ahead of ErrArg of a Tag
		if got, code := c.Give(m); code != api.ErrNone || got.Id != 0 {
			t.Error(m, got, code)
		}
	}
	for _, m := range may {
		c := full(t)
		got, code := c.Give(m)
		if code != api.OK || !sameAll([]api.Method{got}, []api.Method{m}) {
			t.Error(m, got, code)
		}
		m.Tag = 7
		if got, code = c.Give(m); code != api.ErrFull || got.Id != 0 {
			t.Error(m, got, code)
		}
		answered(t, c, api.Method{Id: api.Ack, Tag: 6})
		if got, code = c.Give(m); code != api.OK {
			t.Error(m, got, code)
		}
	}
}

// Promise 16.2, Routes: of the empty exchange, a queue of that name.
func TestRoutes(t *testing.T) {
	c := full(t)
	for _, x := range []struct {
		ex, key string
		want    []string
		code    int
	}{
		{"", "q", []string{"q"}, api.OK}, {"", "r", []string{"r"}, api.OK}, {"", "", nil, api.OK}, {"", "d", nil, api.OK}, {"", "z", nil, api.OK},
		{"d", "k", []string{"q"}, api.OK}, {"d", "q", nil, api.OK}, {"t", "k", nil, api.OK}, {"h", "k", nil, api.OK},
		{"z", "k", nil, api.NotFound}, {"q", "q", nil, api.NotFound}, {"D", "k", nil, api.NotFound},
	} {
		if l, code := c.Routes(x.ex, x.key); code != x.code || !slices.Equal(l, x.want) {
			t.Error(x, l, code)
		}
	}
}

// Promises 16.1, 16.2: what is answered is the caller's own, and what is handed in
// is not kept.
func TestOwn(t *testing.T) {
	c := full(t)
	c.Queues()[0] = "mine"
	l, _ := c.Routes("", "q")
	l[0] = "mine"
	l, _ = c.Routes("d", "k")
	l[0] = "mine"
	_ = append(c.Queues()[:1], "mine")
	args := weighed(2)
	answered(t, c, api.Method{Id: api.QBind, Name: "q", Ex: "h", Args: args}, api.Method{Id: api.QBindOk})
	args[0] = item("mine", api.VInt, 3)
	answered(t, c, api.Method{Id: api.QBind, Name: "q", Ex: "h", Args: weighed(2)}, api.Method{Id: api.QBindOk})
	if l := c.Queues(); !slices.Equal(l, []string{"q", "r"}) {
		t.Error(l)
	}
	if l, code := c.Routes("d", "k"); code != api.OK || !slices.Equal(l, []string{"q"}) {
		t.Error(l, code)
	}
	room := make([]api.Item, 0, 1)
	m, code := c.Give(api.Method{Id: api.GetOk, Tag: 6, Args: room})
	if code != api.OK || cap(m.Args) != 0 {
		t.Error("the caller's room is handed on", code)
	}
	a, _ := c.Call(api.Method{Id: api.Get, Name: "q"})
	a[0] = api.Method{Id: api.Return}
	answered(t, c, api.Method{Id: api.Get, Name: "q"}, api.Method{Id: api.GetEmpty})
}

// Promises 16.1, 16.2: of nil there is nothing, and a channel that New did not make
// is one that is not open.
func TestNil(t *testing.T) {
	var c *Channel
	for _, m := range append(wrong(), api.Method{Id: api.ChanOpen}, api.Method{Id: api.ChanCloseOk}, api.Method{Id: api.GetOk, Tag: 1}) {
		if l, code := c.Call(m); code != api.ErrState || len(l) != 0 {
			t.Error(m, l, code)
		}
		if got, code := c.Give(m); code != api.ErrState || got.Id != 0 {
			t.Error(m, got, code)
		}
	}
	for _, ex := range []string{"", "z"} {
		if l, code := c.Routes(ex, "k"); code != api.ErrState || len(l) != 0 {
			t.Error(ex, l, code)
		}
	}
	if c.Open() || len(c.Queues()) != 0 {
		t.Error("nil is open")
	}
	for _, c := range []*Channel{{}, New()} {
		gone(t, c)
		agree(t, c, &book{}, append(asks(api.Method{Id: api.ChanOpen}), fill()...)...)
	}
}
