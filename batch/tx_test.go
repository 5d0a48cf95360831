package batch

import (
	"math"
	"slices"
	"strings"
	"testing"

	"carrefour/api"
	"carrefour/shard"
)

// call is one thing asked of a transaction: to publish, or to ack.
type call struct {
	ack   bool
	queue int
	key   string
	n     int // the Seq, or the tag
	body  string
}

func (c call) ask(t *Tx) int {
	if c.ack {
		return t.Ack(c.queue, c.key, c.n)
	}
	return t.Publish(c.queue, c.key, c.n, c.body)
}

// ahead are those of l that ask for the same: to publish, or to ack.
func (c call) ahead(l []call) []call {
	var same []call
	for _, x := range l {
		if x.ack == c.ack {
			same = append(same, x)
		}
	}
	return same
}

// mayNot is the chapter's list of what may not be, behind the calls l.
func (c call) mayNot(l []call) bool {
	if c.queue < 0 || c.queue > 3 || c.key == "" || len(c.key) > 20 || c.n < 1 {
		return true
	}
	if !c.ack {
		return c.n > 1<<30 || len(c.body) > 200
	}
	return slices.ContainsFunc(c.ahead(l), func(x call) bool { return x.n == c.n })
}

// code is what the chapter says of c, behind the calls l that were taken.
func (c call) code(l []call) int {
	same := c.ahead(l)
	switch {
	case c.mayNot(l):
		return api.ErrArg
	case len(l) > 0 && (l[0].queue != c.queue || l[0].key != c.key):
		return api.NotYet
	case len(same) > 7:
		return api.ErrFull
	case !c.ack && len(same) > 0 && same[len(same)-1].n+1 != c.n:
		return api.ErrArg
	}
	return api.OK
}

// taken is what Take answers behind the calls l that pub's transaction took.
func taken(pub int, l []call) (int, []api.Msg, []int) {
	var put []api.Msg
	var tags []int
	queue := -1
	for _, c := range l {
		queue = c.queue
		if c.ack {
			tags = append(tags, c.n)
		} else {
			put = append(put, api.Msg{Pub: pub, Seq: c.n, Key: c.key, Body: c.body})
		}
	}
	return queue, put, tags
}

// takes tells whether Take answers what the calls l left, and nothing behind it.
func takes(x *Tx, pub int, l []call) bool {
	queue, put, tags := taken(pub, l)
	q, p, a := x.Take()
	if q != queue || !slices.Equal(p, put) || !slices.Equal(a, tags) || x.Len() != 0 {
		return false
	}
	q, p, a = x.Take()
	return q == -1 && len(p) == 0 && len(a) == 0 && x.Len() == 0
}

// kindsOfCalls are calls that may be taken, and such as may not.
func kindsOfCalls() []call {
	return []call{
		{queue: 0, key: "k", n: 1}, {queue: 0, key: "k", n: 2, body: "b"}, {queue: 0, key: "k", n: 3}, {queue: 0, key: "k", n: 4},
		{queue: 3, key: "k", n: 2}, {queue: 0, key: "l", n: 2}, {queue: 0, key: "k", n: 0}, {queue: 4, key: "k", n: 2},
		{ack: true, queue: 0, key: "k", n: 1}, {ack: true, queue: 0, key: "k", n: 2}, {ack: true, queue: 3, key: "k", n: 1},
		{ack: true, queue: 0, key: "l", n: 2}, {ack: true, queue: 0, key: "k", n: 0}, {ack: true, queue: 0, key: "", n: 2},
	}
}

// Promise 13.2: all runs of five calls, with a Take between them or not.
func TestTxRuns(t *testing.T) {
	kinds := kindsOfCalls()
	var run func(done []int)
	run = func(done []int) {
		x := New(2)
		var l []call
		for _, k := range done {
			if k == len(kinds) {
				if !takes(x, 2, l) {
					t.Fatal("run", done, "not what was there")
				}
				l = nil
				continue
			}
			code := kinds[k].code(l)
			if got := kinds[k].ask(x); got != code {
				t.Fatal("run", done, "at", k, "is", got, "not", code)
			}
			if code == api.OK {
				l = append(l, kinds[k])
			}
			if x.Len() != len(l) {
				t.Fatal("run", done, "Len", x.Len())
			}
		}
		if !takes(x, 2, l) {
			t.Fatal("run", done, "not what was there")
		}
		if len(done) < 5 {
			for k := range len(kinds) + 1 {
				run(append(slices.Clone(done), k))
			}
		}
	}
	run(nil)
}

// Promise 13.2, New: of clients alone.
func TestNew(t *testing.T) {
	for pub := range 4 {
		x := New(pub)
		if x == nil || x.Len() != 0 || !takes(x, pub, nil) {
			t.Fatal(pub)
		}
		for range 2 { // a Take leaves it the same client's
			if code := x.Publish(1, "k", 7, "b"); code != api.OK || !takes(x, pub, []call{{queue: 1, key: "k", n: 7, body: "b"}}) {
				t.Error(pub, code)
			}
		}
	}
	for _, pub := range []int{-1, 4, 5, 256, 1 << 32, math.MaxInt, math.MinInt} {
		if New(pub) != nil {
			t.Error(pub, "is nobody")
		}
	}
}

// Promise 13.2, Publish and Ack: each part up to its ends, on a new transaction.
func TestTxEnds(t *testing.T) {
	long := strings.Repeat("\xff", 20)
	for _, c := range []call{
		{queue: 0, key: "k", n: 1}, {queue: 3, key: "k", n: 1}, {queue: 0, key: long, n: 1}, {queue: 0, key: "\x00", n: 1},
		{queue: 0, key: "k", n: 1 << 30}, {queue: 0, key: "k", n: 77}, {queue: 0, key: "k", n: 1, body: strings.Repeat("\x00", 200)},
		{ack: true, queue: 0, key: "k", n: 1}, {ack: true, queue: 3, key: long, n: 1}, {ack: true, queue: 0, key: "k", n: 1 << 30},
		{ack: true, queue: 0, key: "k", n: math.MaxInt},
	} {
		x := New(0)
		if code := c.ask(x); code != api.OK || x.Len() != 1 || !takes(x, 0, []call{c}) {
			t.Errorf("%+v: %d", c, code)
		}
	}
}

// wrongCalls are calls that may never be taken.
func wrongCalls() []call {
	var l []call
	add := func(queue int, key string, n int) {
		l = append(l, call{queue: queue, key: key, n: n}, call{ack: true, queue: queue, key: key, n: n})
	}
	for _, queue := range []int{-1, 4, 5, 256, 1 << 32, math.MaxInt, math.MinInt} {
		add(queue, "k", 3)
	}
	for _, key := range []string{"", strings.Repeat("k", 21), strings.Repeat("é", 11), strings.Repeat("k", 256)} {
		add(1, key, 3)
	}
	for _, n := range []int{0, -1, math.MinInt} {
		add(1, "k", n)
	}
	for _, n := range []int{1<<30 + 1, 1<<32 + 3, math.MaxInt} {
		l = append(l, call{queue: 1, key: "k", n: n})
	}
	for _, n := range []int{201, 256, 1 << 16} {
		l = append(l, call{queue: 1, key: "k", n: 3, body: strings.Repeat("x", n)})
	}
	return l
}

// Promise 13.2, Publish and Ack: ErrArg of what may not be, and nothing changes.
func TestTxErrArg(t *testing.T) {
	for _, c := range wrongCalls() {
		x := New(0)
		if code := c.ask(x); code != api.ErrArg || x.Len() != 0 {
			t.Errorf("%+v: %d", c, code)
		}
		l := []call{{queue: 1, key: "k", n: 2}, {ack: true, queue: 1, key: "k", n: 2}} // no other queue or key than this is there
		if l[0].ask(x) != api.OK || l[1].ask(x) != api.OK {
			t.Errorf("behind %+v", c)
		}
		if code := c.ask(x); code != api.ErrArg || x.Len() != 2 || !takes(x, 0, l) {
			t.Errorf("%+v at last: %d", c, code)
		}
	}
}

// filled is a transaction with that many messages, Seqs from 1 on, and that many
// tags, from 1 on, all of queue 3 and "z".
func filled(t *testing.T, put, tags int) (*Tx, []call) {
	t.Helper()
	x := New(1)
	var l []call
	for i := range max(put, tags) {
		if i < tags {
			l = append(l, call{ack: true, queue: 3, key: "z", n: i + 1})
		}
		if i < put {
			l = append(l, call{queue: 3, key: "z", n: i + 1})
		}
	}
	for _, c := range l {
		if code := c.ask(x); code != api.OK {
			t.Fatal(c, code)
		}
	}
	return x, l
}

// Promise 13.2, Publish and Ack: the errors in the order in which the chapter names them.
func TestTxOrder(t *testing.T) {
	for _, c := range []struct {
		put, tags int
		call      call
		want      int
	}{
		{8, 0, call{queue: 3, key: "z", n: 9}, api.ErrFull},
		{8, 0, call{queue: 3, key: "z", n: 7}, api.ErrFull},
		{8, 8, call{queue: 3, key: "z", n: 9}, api.ErrFull},
		{8, 8, call{queue: 2, key: "z", n: 9}, api.NotYet},
		{8, 8, call{queue: 3, key: "y", n: 7}, api.NotYet},
		{8, 8, call{queue: 2, key: "z", n: 0}, api.ErrArg},
		{8, 8, call{queue: 3, key: "z", n: 9, body: strings.Repeat("x", 201)}, api.ErrArg},
		{7, 8, call{queue: 3, key: "z", n: 8}, api.OK},
		{7, 8, call{queue: 3, key: "z", n: 9}, api.ErrArg},
		{7, 8, call{queue: 3, key: "z", n: 7}, api.ErrArg},
		{7, 8, call{queue: 2, key: "z", n: 9}, api.NotYet},
		{0, 8, call{queue: 3, key: "z", n: 50}, api.OK},
		{0, 1, call{queue: 3, key: "y", n: 50}, api.NotYet},
		{1, 0, call{ack: true, queue: 3, key: "y", n: 1}, api.NotYet},
		{0, 8, call{ack: true, queue: 3, key: "z", n: 9}, api.ErrFull},
		{8, 8, call{ack: true, queue: 3, key: "z", n: 9}, api.ErrFull},
		{8, 8, call{ack: true, queue: 3, key: "z", n: 8}, api.ErrArg},
		{8, 8, call{ack: true, queue: 3, key: "z", n: 0}, api.ErrArg},
		{8, 8, call{ack: true, queue: 2, key: "z", n: 9}, api.NotYet},
		{8, 8, call{ack: true, queue: 2, key: "z", n: 1}, api.ErrArg},
		{8, 8, call{ack: true, queue: 3, key: "y", n: 1}, api.ErrArg},
		{8, 7, call{ack: true, queue: 3, key: "z", n: 8}, api.OK},
		{8, 7, call{ack: true, queue: 3, key: "z", n: 77}, api.OK},
		{8, 7, call{ack: true, queue: 3, key: "z", n: 4}, api.ErrArg},
	} {
		x, l := filled(t, c.put, c.tags)
		code := c.call.ask(x)
		if code == api.OK {
			l = append(l, c.call)
		}
		if code != c.want || x.Len() != len(l) || !takes(x, 1, l) {
			t.Errorf("%d, %d, %+v: %d, not %d", c.put, c.tags, c.call, code, c.want)
		}
	}
}

// Promise 13.2, Take: all that was there is free again.
func TestTake(t *testing.T) {
	x, l := filled(t, 8, 8)
	if !takes(x, 1, l) {
		t.Fatal("not what was there")
	}
	l = []call{{ack: true, queue: 0, key: "y", n: 8}, {queue: 0, key: "y", n: 3}, {queue: 0, key: "y", n: 4}}
	for _, c := range l {
		if code := c.ask(x); code != api.OK {
			t.Error(c, code)
		}
	}
	if !takes(x, 1, l) {
		t.Error("not what was there")
	}
}

// Rule 2: what Take answers is the caller's own.
func TestTakeIsOwn(t *testing.T) {
	x, _ := filled(t, 3, 3)
	_, put, tags := x.Take()
	l := []call{{queue: 1, key: "k", n: 5}, {ack: true, queue: 1, key: "k", n: 5}}
	for _, c := range l {
		c.ask(x)
	}
	_, want, wanted := taken(1, []call{{queue: 3, key: "z", n: 1}, {queue: 3, key: "z", n: 2}, {queue: 3, key: "z", n: 3}, {ack: true, n: 1}, {ack: true, n: 2}, {ack: true, n: 3}})
	if !slices.Equal(put, want) || !slices.Equal(tags, wanted) {
		t.Error("changed by what came behind it")
	}
	clear(put[:cap(put)])
	clear(tags[:cap(tags)])
	if !takes(x, 1, l) {
		t.Error("shared with what came behind it")
	}
}

// Promise 13.2: of nil ErrState, whatever is asked; -1; 0.
func TestNil(t *testing.T) {
	var x *Tx
	for _, c := range append(wrongCalls(), kindsOfCalls()...) {
		if code := c.ask(x); code != api.ErrState {
			t.Errorf("%+v: %d", c, code)
		}
	}
	if q, l, a := x.Take(); q != -1 || len(l) != 0 || len(a) != 0 || x.Len() != 0 {
		t.Error(q, l, a, x.Len())
	}
}

// Promise 13.3: what a transaction takes, Do does whole, or not at all.
func TestTxDone(t *testing.T) {
	fill := func() *Tx {
		x := New(1)
		for i, code := range []int{x.Publish(2, "a", 4, "b"), x.Ack(2, "a", 1), x.Publish(2, "a", 5, "c"), x.Ack(2, "a", 3)} {
			if code != api.OK {
				t.Fatal(i, code)
			}
		}
		return x
	}
	_, put, tags := fill().Take()
	s := some(3, 1, 2, 3)
	x, code := Do(s, put, tags)
	if code != api.OK || len(x.Ready) != 5 || !slices.Equal(x.Ready[3:], put) || !slices.Equal(x.Held, []api.Held{held(2)}) || shard.Last(x, 1, "a") != 5 {
		t.Errorf("%+v, %d", x, code)
	}
	if y, code := Do(x, put, tags); code != api.ErrNone || !shard.Same(y, x) {
		t.Errorf("a second time: %+v, %d", y, code)
	}
	if y, code := Do(x, put, nil); code != api.ErrDup || !shard.Same(y, x) {
		t.Errorf("its batch a second time: %+v, %d", y, code)
	}
	s = some(47, 1)
	if y, code := Do(s, put, tags[:1]); code != api.ErrDup || len(y.Held) != 0 || len(y.Ready) != 47 {
		t.Errorf("%+v, %d", y, code)
	}
}
