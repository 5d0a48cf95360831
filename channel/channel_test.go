package channel

import (
	"math"
	"slices"
	"strings"
	"testing"

	"carrefour/api"
	"carrefour/method"
)

// turn is one thing asked of a channel, or given by it.
type turn struct {
	give bool
	m    api.Method
}

func (x turn) do(c *Channel) ([]api.Method, int) {
	if !x.give {
		return c.Call(x.m)
	}
	m, code := c.Give(x.m)
	return []api.Method{m}, code
}

func (x turn) note(b *book) ([]api.Method, int) {
	if !x.give {
		return b.call(x.m)
	}
	m, code := b.give(x.m)
	return []api.Method{m}, code
}

func sameAll(a, b []api.Method) bool {
	return slices.EqualFunc(a, b, method.Same)
}

// same tells whether c is as b says.
func (b *book) same(c *Channel) bool {
	if c.Open() != b.open || !slices.Equal(c.Queues(), b.queues()) {
		return false
	}
	for _, ex := range []string{"", "d", "f", "t", "h", "z"} {
		for _, key := range []string{"", "q", "r", "a.b"} {
			l, code := c.Routes(ex, key)
			want, wanted := b.routes(ex, key)
			if code != wanted || !slices.Equal(l, want) {
				return false
			}
		}
	}
	return true
}

// agree does all turns, and tells where channel and book are not of one mind.
func agree(t *testing.T, c *Channel, b *book, l ...turn) {
	t.Helper()
	for i, x := range l {
		got, code := x.do(c)
		want, wanted := x.note(b)
		if code != wanted || !sameAll(got, want) || !b.same(c) {
			t.Fatalf("turns %+v, at %d: %+v, %d, not %+v, %d", l, i, got, code, want, wanted)
		}
	}
}

func ask(m api.Method) turn  { return turn{m: m} }
func give(m api.Method) turn { return turn{give: true, m: m} }

func asks(l ...api.Method) []turn {
	var out []turn
	for _, m := range l {
		out = append(out, ask(m))
	}
	return out
}

// someTurns are of all kinds.
func someTurns() []turn {
	return append(asks(
		api.Method{Id: api.ChanOpen},
		api.Method{Id: api.ChanClose, Code: 320, Text: "bye"},
		api.Method{Id: api.ChanCloseOk},
		api.Method{Id: api.ExDeclare, Name: "d", Type: "direct"},
		api.Method{Id: api.ExDeclare, Name: "d", Type: "fanout"},
		api.Method{Id: api.QDeclare, Name: "q"},
		api.Method{Id: api.QBind, Name: "q", Ex: "d", Key: "a.b"},
		api.Method{Id: api.Qos, Count: 1},
		api.Method{Id: api.Consume, Name: "q", Text: "c"},
		api.Method{Id: api.Get, Name: "q"},
		api.Method{Id: api.Publish, Ex: "d", Key: "a.b", Flag: true},
		api.Method{Id: api.Ack, Flag: true},
		api.Method{Id: api.Reject, Tag: 1, Flag: true},
		api.Method{Id: api.Select},
		api.Method{Id: api.TxSelect},
		api.Method{Id: api.TxCommit},
		api.Method{Id: api.TxRollback, Tag: 1},
	),
		give(api.Method{Id: api.GetOk, Tag: 1}),
		give(api.Method{Id: api.Deliver, Tag: 2, Text: "c"}),
	)
}

// Promises 16.1, 16.2, 16.3: all runs of three turns, of a new channel and of one
// that is open.
func TestRuns(t *testing.T) {
	l := someTurns()
	for _, first := range [][]turn{nil, {l[0]}, {l[0], l[3], l[5]}, {l[0], l[5], l[8]}} {
		for _, x := range l {
			for _, y := range l {
				for _, z := range l {
					agree(t, New(), &book{}, append(slices.Clone(first), x, y, z)...)
				}
			}
		}
	}
}

// dice are numbers without a rule that one sees, the same ones each time.
type dice uint64

func (d *dice) below(n int) int {
	*d = *d*6364136223846793005 + 1442695040888963407
	return int(uint64(*d)>>33) % n
}

func (d *dice) of(l ...string) string {
	return l[d.below(len(l))]
}

// aTurn is one of those that may come behind what b has, mostly without an error.
func (d *dice) aTurn(b *book) turn {
	if !b.open || d.below(60) == 0 {
		return ask(api.Method{Id: []int{api.ChanOpen, api.ChanOpen, api.ChanCloseOk, api.ChanClose, api.Publish}[d.below(5)]})
	}
	queue, ex, key := d.of("q", "r", "s"), d.of("d", "f", "t", "h"), d.of("", "q", "r", "a.b", "a.#")
	switch d.below(14) {
	case 0:
		kind := map[string]string{"d": "direct", "f": "fanout", "t": "topic", "h": "x-consistent-hash"}[ex]
		return ask(api.Method{Id: api.ExDeclare, Name: ex, Type: kind})
	case 1:
		return ask(api.Method{Id: api.QDeclare, Name: queue})
	case 2, 3:
		m := api.Method{Id: api.QBind, Name: queue, Ex: ex, Key: key}
		if ex == "h" {
			m.Args = weighed(len(queue) + len(key))
		}
		return ask(m)
	case 4:
		return ask(api.Method{Id: api.Qos, Count: d.below(4)})
	case 5:
		return ask(api.Method{Id: api.Consume, Name: queue, Text: string(rune('a' + d.below(40)))})
	case 6, 7:
		if d.below(3) == 0 {
			ex = ""
		}
		return ask(api.Method{Id: api.Publish, Ex: ex, Key: key, Flag: d.below(2) == 0})
	case 8, 9:
		return d.settling(b)
	case 10:
		id := []int{api.Select, api.TxSelect, api.TxCommit, api.TxRollback, api.Get}[d.below(5)]
		if len(b.of(api.TxSelect)) == 0 && id != api.Get {
			id = api.TxSelect
		}
		m := api.Method{Id: id}
		if id == api.Get {
			m.Name = queue
		}
		return ask(m)
	}
	m := api.Method{Id: api.GetOk, Tag: uint64(len(b.given) + d.below(3)), Ex: ex, Key: key, Flag: d.below(2) == 0}
	if l := b.of(api.Consume); len(l) > 0 && d.below(2) == 0 {
		m.Id, m.Text = api.Deliver, d.of(l[0].Text, "no one")
	}
	return give(m)
}

func (d *dice) settling(b *book) turn {
	m := api.Method{Id: []int{api.Ack, api.Nack, api.Reject}[d.below(3)], Flag: d.below(3) == 0}
	if l := b.held(); len(l) > 0 {
		m.Tag = l[d.below(len(l))]
	}
	if m.Tag == 0 {
		m.Id, m.Flag = api.Ack, d.below(20) > 0
	}
	return ask(m)
}

// weighed is Args with that weight.
func weighed(n int) []api.Item {
	return []api.Item{{Name: "weight", V: api.Value{Kind: api.VInt, N: int64(n)}}}
}

// Promises 16.1, 16.2, 16.3: long runs.
func TestLongRuns(t *testing.T) {
	d := dice(16)
	for range 60 {
		c, b := New(), &book{}
		for range 200 {
			agree(t, c, b, d.aTurn(b))
		}
	}
}

// all is each method's Id.
func all() []int {
	return []int{
		api.ChanOpen, api.ChanOpenOk, api.ChanClose, api.ChanCloseOk, api.ExDeclare, api.ExDeclareOk, api.QDeclare, api.QDeclareOk,
		api.QBind, api.QBindOk, api.Qos, api.QosOk, api.Consume, api.ConsumeOk, api.Publish, api.Return, api.Deliver, api.Get,
		api.GetOk, api.GetEmpty, api.Ack, api.Reject, api.Nack, api.Select, api.SelectOk, api.TxSelect, api.TxSelectOk,
		api.TxCommit, api.TxCommitOk, api.TxRollback, api.TxRollOk,
	}
}

// wrong are methods that may not be.
func wrong() []api.Method {
	return []api.Method{
		{}, {Id: 77}, {Id: -api.ChanOpen}, {Id: math.MinInt}, {Id: math.MaxInt}, {Id: api.ChanOpen, Tag: 1}, {Id: api.ChanOpen, Name: "x"},
		{Id: api.ChanClose, Code: -1}, {Id: api.ChanClose, Code: 65536}, {Id: api.ChanClose, Key: "k"}, {Id: api.ChanCloseOk, Back: true},
		{Id: api.ChanCloseOk, Code: 1}, {Id: api.QDeclare, Name: strings.Repeat("n", 256)}, {Id: api.QDeclare, Name: "q", Count: 1},
		{Id: api.Qos, Count: -1}, {Id: api.Qos, Count: 1 << 32}, {Id: api.Ack, Flag: true, Back: true}, {Id: api.Return, Code: 65536},
		{Id: api.QBind, Name: "q", Ex: "d", Args: []api.Item{{}}}, {Id: api.Publish, Ex: "d", Text: "x"}, {Id: api.ChanOpenOk, Type: "x"},
		{Id: api.Select, Args: weighed(1)},
	}
}

// with is a channel that did those, none of them with an error.
func with(t *testing.T, l ...turn) *Channel {
	t.Helper()
	c := New()
	for _, x := range append(asks(api.Method{Id: api.ChanOpen}), l...) {
		if _, code := x.do(c); code != api.OK {
			t.Fatal(x, code)
		}
	}
	return c
}

// full is a channel with some of all things.
func full(t *testing.T) *Channel {
	t.Helper()
	return with(t, fill()...)
}

func fill() []turn {
	return append(asks(
		api.Method{Id: api.QDeclare, Name: "q"},
		api.Method{Id: api.QDeclare, Name: "r"},
		api.Method{Id: api.ExDeclare, Name: "d", Type: "direct"},
		api.Method{Id: api.ExDeclare, Name: "t", Type: "topic"},
		api.Method{Id: api.ExDeclare, Name: "h", Type: "x-consistent-hash"},
		api.Method{Id: api.QBind, Name: "q", Ex: "d", Key: "k"},
		api.Method{Id: api.Consume, Name: "q", Text: "c"},
		api.Method{Id: api.Qos, Count: 3},
		api.Method{Id: api.Select},
	),
		give(api.Method{Id: api.GetOk, Tag: 4}),
		give(api.Method{Id: api.Deliver, Tag: 5, Text: "c"}))
}

// refused asks for m: the channel must say that it is shut, with that code.
func refused(t *testing.T, c *Channel, m api.Method, code int) {
	t.Helper()
	l, got := c.Call(m)
	if got != code || !sameAll(l, []api.Method{{Id: api.ChanClose, Code: code}}) {
		t.Errorf("%+v: %+v, %d, not %d", m, l, got, code)
	}
	gone(t, c)
}

// gone asks what is left: nothing may be.
func gone(t *testing.T, c *Channel) {
	t.Helper()
	if c.Open() || len(c.Queues()) != 0 {
		t.Error("there are queues yet", c.Open(), c.Queues())
	}
	for _, ex := range []string{"d", "t", "h"} {
		if l, code := c.Routes(ex, "k"); code != api.NotFound || len(l) != 0 {
			t.Error("there is yet", ex, l, code)
		}
	}
	if l, code := c.Routes("", "q"); code != api.OK || len(l) != 0 {
		t.Error("there is a queue yet", l, code)
	}
	for _, id := range []int{api.GetOk, api.Deliver} {
		if m, code := c.Give(api.Method{Id: id, Tag: 9}); code != api.ErrState || m.Id != 0 {
			t.Error("it may be given", m, code)
		}
	}
}

// answered asks for m, and tells whether that is the answer.
func answered(t *testing.T, c *Channel, m api.Method, want ...api.Method) {
	t.Helper()
	if l, code := c.Call(m); code != api.OK || !sameAll(l, want) {
		t.Errorf("%+v: %+v, %d, not %+v", m, l, code, want)
	}
}

// Promises 16.1, 16.3: SyntaxErr of what may not be, open or not.
func TestSyntaxErr(t *testing.T) {
	for _, m := range wrong() {
		if method.May(m) {
			t.Fatal(m, "may be")
		}
		refused(t, New(), m, api.SyntaxErr)
		refused(t, full(t), m, api.SyntaxErr)
	}
}

// Promises 16.1, 16.3: ChannelBad of all but ChanOpen, unless it is open; of
// ChanOpen, if it is.
func TestChannelBad(t *testing.T) {
	for _, id := range all() {
		c := New()
		if id == api.ChanOpen {
			answered(t, c, api.Method{Id: id}, api.Method{Id: api.ChanOpenOk})
			if !c.Open() {
				t.Error("it is open")
			}
			continue
		}
		refused(t, c, api.Method{Id: id}, api.ChannelBad)
		c = full(t)
		answered(t, c, api.Method{Id: api.ChanClose}, api.Method{Id: api.ChanCloseOk})
		gone(t, c)
		refused(t, c, api.Method{Id: id}, api.ChannelBad)
	}
	refused(t, full(t), api.Method{Id: api.ChanOpen}, api.ChannelBad)
}

// Promises 16.1, 16.3: CommandBad of what a server says.
func TestCommandBad(t *testing.T) {
	for _, m := range []api.Method{
		{Id: api.ChanOpenOk}, {Id: api.ChanCloseOk}, {Id: api.ExDeclareOk}, {Id: api.QDeclareOk, Name: "q", Count: 1}, {Id: api.QBindOk},
		{Id: api.QosOk}, {Id: api.ConsumeOk, Text: "c"}, {Id: api.SelectOk}, {Id: api.TxSelectOk}, {Id: api.TxCommitOk}, {Id: api.TxRollOk},
		{Id: api.Return, Code: 312, Ex: "d"}, {Id: api.Deliver, Text: "c", Tag: 9}, {Id: api.GetOk, Tag: 9}, {Id: api.GetEmpty},
	} {
		refused(t, full(t), m, api.CommandBad)
	}
}

// Promise 16.1: a channel that is shut passes over all but ChanCloseOk and
// ChanClose, and these, too, if they may not be.
func TestShut(t *testing.T) {
	c := full(t)
	refused(t, c, api.Method{Id: api.TxCommit}, api.Precond)
	for range 2 {
		for _, id := range all() {
			switch id {
			case api.ChanCloseOk:
			case api.ChanClose:
				answered(t, c, api.Method{Id: id, Code: 1, Text: "x"}, api.Method{Id: api.ChanCloseOk})
			default:
				answered(t, c, api.Method{Id: id})
			}
			gone(t, c)
		}
		for _, m := range wrong() {
			answered(t, c, m)
			gone(t, c)
		}
	}
	answered(t, c, api.Method{Id: api.ChanCloseOk})
	gone(t, c)
	refused(t, c, api.Method{Id: api.ChanCloseOk}, api.ChannelBad)
	answered(t, c, api.Method{Id: api.ChanCloseOk})
	answered(t, c, api.Method{Id: api.ChanOpen}, api.Method{Id: api.ChanOpenOk})
}

// Promise 16.1: a channel that is open again has nothing of what it had.
func TestOpenAgain(t *testing.T) {
	closing := asks(api.Method{Id: api.ChanClose}, api.Method{Id: api.ChanOpen})
	failing := asks(api.Method{Id: api.ChanOpen}, api.Method{Id: api.ChanCloseOk}, api.Method{Id: api.ChanOpen})
	for _, again := range [][]turn{closing, failing} {
		for _, last := range asks(
			api.Method{Id: api.TxSelect},
			api.Method{Id: api.Ack, Tag: 4},
			api.Method{Id: api.Ack, Flag: true},
			api.Method{Id: api.ExDeclare, Name: "d", Type: "fanout"},
			api.Method{Id: api.QBind, Name: "q", Ex: "d", Key: "k"},
			api.Method{Id: api.Publish, Ex: "", Key: "q", Flag: true},
			api.Method{Id: api.QDeclare, Name: "new"},
			api.Method{Id: api.Consume, Name: "q", Text: "no one's yet"},
		) {
			agree(t, full(t), &book{open: true, asked: askedOf(fill()), given: []uint64{4, 5}}, append(again, last)...)
		}
		c := full(t)
		for _, x := range append(again, ask(api.Method{Id: api.QDeclare, Name: "q"})) {
			x.do(c)
		}
		if m, code := c.Give(api.Method{Id: api.Deliver, Tag: 1, Text: "c"}); code != api.ErrNone || m.Id != 0 {
			t.Error("there is a consumer yet", m, code)
		}
		for tag := range uint64(1000) { // tags begin anew, without the limit that was
			if _, code := c.Give(api.Method{Id: api.GetOk, Tag: tag + 1}); code != api.OK {
				t.Fatal(tag+1, code)
			}
		}
		if _, code := c.Give(api.Method{Id: api.GetOk, Tag: 1001}); code != api.ErrFull {
			t.Error("more than a thousand", code)
		}
		answered(t, c, api.Method{Id: api.Consume, Name: "q", Text: "c"}, api.Method{Id: api.ConsumeOk, Text: "c"})
	}
}

// askedOf is what of the turns was asked.
func askedOf(l []turn) []api.Method {
	var out []api.Method
	for _, x := range l {
		if !x.give {
			out = append(out, x.m)
		}
	}
	return out
}
