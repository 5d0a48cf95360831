package credit

import (
	"math"
	"slices"
	"testing"

	"carrefour/api"
)

const top = math.MaxUint64 // the greatest tag

// What a call asks for.
const (
	take   = "Take"
	settle = "Settle"
	upTo   = "Settle all"
	limit  = "Limit"
)

// call is one thing asked of a Credit.
type call struct {
	what string
	tag  uint64
	n    int // of limit
}

func (c call) ask(x *Credit) ([]uint64, int) {
	switch c.what {
	case take:
		return nil, x.Take(c.tag)
	case limit:
		return nil, x.Limit(c.n)
	}
	return x.Settle(c.tag, c.what == upTo)
}

// book is a Credit by the chapter's words: all that was ever taken, and what of it
// was settled.
type book struct {
	limit   int
	taken   []uint64
	settled []uint64
}

func (b *book) open() []uint64 {
	var l []uint64
	for _, x := range b.taken {
		if !slices.Contains(b.settled, x) {
			l = append(l, x)
		}
	}
	slices.Sort(l)
	return l
}

func (b *book) free() int {
	if b.limit == 0 {
		return max(1000-len(b.open()), 0)
	}
	return max(b.limit-len(b.open()), 0)
}

func (b *book) do(c call) ([]uint64, int) {
	switch c.what {
	case take:
		return nil, b.take(c.tag)
	case limit:
		if c.n < 0 || c.n > 65535 {
			return nil, api.ErrArg
		}
		b.limit = c.n
		return nil, api.OK
	}
	return b.settle(c.tag, c.what == upTo)
}

func (b *book) take(tag uint64) int {
	if tag == 0 || slices.ContainsFunc(b.taken, func(x uint64) bool { return x >= tag }) {
		return api.ErrArg
	}
	if b.free() == 0 {
		return api.ErrFull
	}
	b.taken = append(b.taken, tag)
	return api.OK
}

func (b *book) settle(tag uint64, all bool) ([]uint64, int) {
	l := slices.DeleteFunc(b.open(), func(x uint64) bool {
		return x != tag && !all || x > tag && tag > 0
	})
	if len(l) == 0 && (tag > 0 || !all) {
		return nil, api.Precond
	}
	b.settled = append(b.settled, l...)
	return l, api.OK
}

// same tells whether x has what b has.
func (b *book) same(x *Credit) bool {
	return slices.Equal(x.Open(), b.open()) && x.Free() == b.free()
}

// agree asks both, and tells whether they answer the same.
func (b *book) agree(t *testing.T, x *Credit, c call) {
	t.Helper()
	l, code := c.ask(x)
	want, wanted := b.do(c)
	if !slices.Equal(l, want) || code != wanted {
		t.Fatalf("%+v: %v, %d, not %v, %d", c, l, code, want, wanted)
	}
	if !b.same(x) {
		t.Fatalf("%+v: open %v, free %d, not %v, %d", c, x.Open(), x.Free(), b.open(), b.free())
	}
}

// kindsOfCalls are calls that may be done, and such as may not.
func kindsOfCalls() []call {
	return []call{
		{what: take, tag: 0}, {what: take, tag: 1}, {what: take, tag: 2}, {what: take, tag: 4}, {what: take, tag: top},
		{what: settle, tag: 0}, {what: settle, tag: 1}, {what: settle, tag: 2}, {what: settle, tag: top},
		{what: upTo, tag: 0}, {what: upTo, tag: 1}, {what: upTo, tag: 3}, {what: upTo, tag: top},
		{what: limit, n: -1}, {what: limit, n: 0}, {what: limit, n: 1}, {what: limit, n: 3},
	}
}

// Promise 15.1: all runs of five calls, at a limit of two.
func TestRuns(t *testing.T) {
	kinds := kindsOfCalls()
	var run func(done []int)
	run = func(done []int) {
		x, b := New(2), &book{limit: 2}
		for i, k := range done {
			l, code := kinds[k].ask(x)
			want, wanted := b.do(kinds[k])
			if !slices.Equal(l, want) || code != wanted || !b.same(x) {
				t.Fatal("run", done, "at", i, "is", l, code, x.Open(), x.Free(), "not", want, wanted, b.open(), b.free())
			}
		}
		if len(done) < 5 {
			for k := range kinds {
				run(append(slices.Clone(done), k))
			}
		}
	}
	run(nil)
}

// dice are numbers without a rule that one sees, the same ones each time.
type dice uint64

func (d *dice) below(n int) int {
	*d = *d*6364136223846793005 + 1442695040888963407
	return int(uint64(*d)>>33) % n
}

// aCall is one of those that may come behind what b has, mostly taken.
func (d *dice) aCall(b *book) call {
	var last uint64
	if len(b.taken) > 0 {
		last = b.taken[len(b.taken)-1]
	}
	tag := uint64(d.below(int(last) + 3))
	switch d.below(12) {
	case 0:
		return call{what: upTo, tag: last - min(last, uint64(d.below(30)+10))}
	case 1:
		return call{what: limit, n: d.below(12)}
	case 2, 3:
		return call{what: settle, tag: tag}
	case 4, 5:
		if l := b.open(); len(l) > 0 {
			return call{what: settle, tag: l[d.below(len(l))]}
		}
	case 6:
		return call{what: take, tag: tag}
	}
	return call{what: take, tag: last + uint64(d.below(3)) + 1}
}

// Promises 15.1, 15.2: long runs; no more are open than were asked for, but what
// was open ahead of a lower limit.
func TestLongRuns(t *testing.T) {
	d := dice(15)
	for _, n := range []int{0, 1, 2, 5, 30} {
		x, b := New(n), &book{limit: n}
		for range 400 {
			c := d.aCall(b)
			ahead := len(x.Open())
			b.agree(t, x, c)
			most := b.limit
			if most == 0 {
				most = 1000
			}
			if l := x.Open(); len(l) > max(most, ahead) || c.what == take && len(l) > ahead && len(l) > most {
				t.Fatal("limit", most, "open", l)
			}
		}
	}
}

// Promise 15.1, New: of limits from 0 to 65,535 alone.
func TestNew(t *testing.T) {
	for _, c := range []struct{ limit, free int }{{0, 1000}, {1, 1}, {2, 2}, {999, 999}, {1000, 1000}, {1001, 1001}, {65534, 65534}, {65535, 65535}} {
		x := New(c.limit)
		if x == nil || x.Free() != c.free || len(x.Open()) != 0 {
			t.Error(c.limit)
		}
	}
	for _, n := range wrongLimits() {
		if New(n) != nil {
			t.Error(n, "is no limit")
		}
	}
}

func wrongLimits() []int {
	return []int{-1, -2, -65535, math.MinInt, 65536, 65537, 1 << 31, 1 << 32, 1<<32 + 5, math.MaxInt}
}

// took is a Credit of that limit with those tags open.
func took(t *testing.T, limit int, tags ...uint64) *Credit {
	t.Helper()
	x := New(limit)
	for _, tag := range tags {
		if code := x.Take(tag); code != api.OK {
			t.Fatal(tag, code)
		}
	}
	return x
}

func has(x *Credit, free int, tags ...uint64) bool {
	return x.Free() == free && slices.Equal(x.Open(), tags)
}

// Promise 15.1, Limit: ErrArg of what New has none of, and nothing changes.
func TestLimitErrArg(t *testing.T) {
	for _, n := range wrongLimits() {
		x := took(t, 3, 7, 9)
		if code := x.Limit(n); code != api.ErrArg || !has(x, 1, 7, 9) {
			t.Error(n, code, x.Free())
		}
	}
}

// Promise 15.1, Limit: what is open stays; nothing is taken until less is open.
func TestLimit(t *testing.T) {
	x := took(t, 4, 1, 2, 3, 4)
	if x.Limit(2) != api.OK || !has(x, 0, 1, 2, 3, 4) {
		t.Error("what is open stays")
	}
	for i, want := range []int{api.ErrFull, api.ErrFull, api.ErrFull, api.OK} {
		if code := x.Take(5); code != want {
			t.Error("Take behind", i, "settled:", code)
		}
		if i < 3 {
			x.Settle(uint64(i)+1, false)
		}
	}
	if !has(x, 0, 4, 5) {
		t.Error(x.Open(), x.Free())
	}
	for _, c := range []struct{ limit, free int }{{3, 1}, {2, 0}, {1, 0}, {65535, 65533}, {0, 998}, {2, 0}} {
		if code := x.Limit(c.limit); code != api.OK || !has(x, c.free, 4, 5) {
			t.Error(c.limit, code, x.Free())
		}
	}
}

// fill takes the tags behind that one, until it may not, and answers how many.
func fill(x *Credit, tag uint64) int {
	n := 0
	for x.Take(tag+1) == api.OK {
		tag++
		n++
	}
	return n
}

// Promises 15.1, 15.2: as many may be open as the limit allows; 1,000 without one.
func TestFull(t *testing.T) {
	for _, c := range []struct{ limit, most int }{{0, 1000}, {1, 1}, {2, 2}, {1000, 1000}, {1001, 1001}, {65535, 65535}} {
		x := New(c.limit)
		if n := fill(x, 0); n != c.most || x.Free() != 0 || len(x.Open()) != c.most {
			t.Fatal(c.limit, n)
		}
		last := uint64(c.most)
		if x.Take(last) != api.ErrArg || x.Take(top) != api.ErrFull { // what may not be is told ahead of what is too much
			t.Error(c.limit, "full")
		}
		if l, code := x.Settle(last, false); code != api.OK || !slices.Equal(l, []uint64{last}) || x.Free() != 1 {
			t.Error(c.limit, l, code)
		}
		if x.Take(last) != api.ErrArg || x.Take(last+1) != api.OK || x.Take(last+2) != api.ErrFull {
			t.Error(c.limit, "one more")
		}
	}
}

// Promise 15.1: a thousand tags stand under a lower limit, and none is free without a limit.
func TestMoreThanUnlimited(t *testing.T) {
	x := New(1200)
	fill(x, 0)
	if x.Limit(0) != api.OK || x.Free() != 0 || len(x.Open()) != 1200 || x.Take(1201) != api.ErrFull {
		t.Error(x.Free())
	}
	if l, code := x.Settle(200, true); code != api.OK || len(l) != 200 || x.Free() != 0 || x.Take(1201) != api.ErrFull {
		t.Error(len(l), code, x.Free())
	}
	if l, code := x.Settle(777, false); code != api.OK || len(l) != 1 || x.Free() != 1 || x.Take(1201) != api.OK || x.Take(1202) != api.ErrFull {
		t.Error(len(l), code, x.Free())
	}
}

// Promise 15.1, Take: only what is greater than all that were taken ever.
func TestTake(t *testing.T) {
	x := New(5)
	for i, c := range []struct {
		tag  uint64
		want int
	}{
		{0, api.ErrArg}, {2, api.OK}, {2, api.ErrArg}, {1, api.ErrArg}, {0, api.ErrArg}, {3, api.OK},
		{1 << 32, api.OK}, {1<<32 - 1, api.ErrArg}, {4, api.ErrArg}, {1 << 63, api.OK}, {1<<63 - 1, api.ErrArg},
		{top, api.OK}, {top, api.ErrArg}, {top - 1, api.ErrArg}, {0, api.ErrArg},
	} {
		if code := x.Take(c.tag); code != c.want {
			t.Error(i, c.tag, code)
		}
	}
	if !has(x, 0, 2, 3, 1<<32, 1<<63, top) {
		t.Error(x.Open(), x.Free())
	}
	if l, code := x.Settle(0, true); code != api.OK || len(l) != 5 || !has(x, 5) {
		t.Error(l, code)
	}
	for _, tag := range []uint64{0, 1, 2, 5, 1 << 32, 1<<63 + 1, top - 1, top} { // what was settled counts, too
		if code := x.Take(tag); code != api.ErrArg || !has(x, 5) {
			t.Error(tag, code)
		}
	}
}

// Promise 15.1, Take: what was not taken for want of room may be taken later.
func TestTakeLater(t *testing.T) {
	x := took(t, 1, 5)
	if x.Take(9) != api.ErrFull || !has(x, 0, 5) {
		t.Error("full")
	}
	x.Settle(5, false)
	if x.Take(5) != api.ErrArg || x.Take(6) != api.OK || !has(x, 0, 6) {
		t.Error("9 was not taken")
	}
}

// Promise 15.1, Settle: by each tag, one alone and all up to it.
func TestSettle(t *testing.T) {
	for _, c := range []struct {
		tag  uint64
		one  []uint64 // none: Precond
		up   []uint64
		left []uint64 // when all up to it are settled
	}{
		{0, nil, []uint64{3, 5, 1 << 40, 1 << 63}, nil},
		{1, nil, nil, []uint64{3, 5, 1 << 40, 1 << 63}},
		{2, nil, nil, []uint64{3, 5, 1 << 40, 1 << 63}},
		{3, []uint64{3}, []uint64{3}, []uint64{5, 1 << 40, 1 << 63}},
		{4, nil, []uint64{3}, []uint64{5, 1 << 40, 1 << 63}},
		{5, []uint64{5}, []uint64{3, 5}, []uint64{1 << 40, 1 << 63}},
		{6, nil, []uint64{3, 5}, []uint64{1 << 40, 1 << 63}},
		{1<<40 - 1, nil, []uint64{3, 5}, []uint64{1 << 40, 1 << 63}},
		{1 << 40, []uint64{1 << 40}, []uint64{3, 5, 1 << 40}, []uint64{1 << 63}},
		{1<<40 + 5, nil, []uint64{3, 5, 1 << 40}, []uint64{1 << 63}},
		{1 << 63, []uint64{1 << 63}, []uint64{3, 5, 1 << 40, 1 << 63}, nil},
		{top, nil, []uint64{3, 5, 1 << 40, 1 << 63}, nil},
	} {
		all := []uint64{3, 5, 1 << 40, 1 << 63}
		left := slices.DeleteFunc(slices.Clone(all), func(x uint64) bool { return slices.Contains(c.one, x) })
		settles(t, took(t, 6, all...), c.tag, false, c.one, left)
		settles(t, took(t, 6, all...), c.tag, true, c.up, c.left)
	}
}

// settles tells whether Settle answers want (none: Precond), leaves left of a limit
// of six, and can't be done again, but of each at all.
func settles(t *testing.T, x *Credit, tag uint64, all bool, want, left []uint64) {
	t.Helper()
	wanted := api.OK
	if len(want) == 0 {
		wanted = api.Precond
	}
	if l, code := x.Settle(tag, all); code != wanted || !slices.Equal(l, want) || !has(x, 6-len(left), left...) {
		t.Error(tag, all, "answers", l, code, "leaves", x.Open(), x.Free())
	}
	wanted = api.Precond
	if tag == 0 && all {
		wanted = api.OK
	}
	if l, code := x.Settle(tag, all); code != wanted || len(l) != 0 || !has(x, 6-len(left), left...) {
		t.Error(tag, all, "again answers", l, code, "leaves", x.Open(), x.Free())
	}
}

// Promise 15.1, Settle: where nothing is open, each at all is none of them.
func TestSettleNothing(t *testing.T) {
	for _, tag := range []uint64{0, 1, 5, 1 << 32, top} {
		for _, x := range []*Credit{New(0), New(3)} {
			free := x.Free()
			if l, code := x.Settle(tag, false); code != api.Precond || len(l) != 0 {
				t.Error(tag, l, code)
			}
			want := api.Precond
			if tag == 0 {
				want = api.OK
			}
			if l, code := x.Settle(tag, true); code != want || len(l) != 0 || !has(x, free) {
				t.Error(tag, l, code)
			}
		}
	}
}

// Promise 15.1, Settle: the greatest limit's tags, in the order in which they were
// taken, from the last one on, and from the middle on; then all that is left.
func TestSettleMany(t *testing.T) {
	const most = 65535
	for name, place := range map[string]func(i int) int{
		"first":  func(i int) int { return i },
		"last":   func(i int) int { return most - 1 - i },
		"middle": func(i int) int { return (most/2 + i) % most },
		"spread": func(i int) int { return i * 1009 % most },
	} {
		x := New(most)
		fill(x, 0)
		for i := range most - 5 {
			tag := uint64(place(i)) + 1
			if l, code := x.Settle(tag, false); code != api.OK || len(l) != 1 || l[0] != tag || x.Free() != i+1 {
				t.Fatal(name, i, l, code, x.Free())
			}
			if l, code := x.Settle(tag, false); code != api.Precond || len(l) != 0 {
				t.Fatal(name, i, "again", l, code)
			}
		}
		var left []uint64
		for i := most - 5; i < most; i++ {
			left = append(left, uint64(place(i))+1)
		}
		slices.Sort(left)
		if l, code := x.Settle(top, true); code != api.OK || !slices.Equal(l, left) || !has(x, most) {
			t.Error(name, l, code)
		}
	}
}

// Promise 15.2: a client that settles and takes goes on for long, and has no more
// than it asked for at any time.
func TestGoesOn(t *testing.T) {
	const most, last = 3000, 200000
	x := New(most)
	for tag := uint64(1); tag <= last; tag++ {
		if tag > most {
			if x.Take(tag) != api.ErrFull || x.Free() != 0 {
				t.Fatal(tag, x.Free())
			}
			if l, code := x.Settle(tag-most, tag%2 == 0); code != api.OK || len(l) != 1 || l[0] != tag-most {
				t.Fatal(tag, l, code)
			}
		}
		if code := x.Take(tag); code != api.OK {
			t.Fatal(tag, code)
		}
	}
	l := x.Open()
	if len(l) != most || l[0] != last-most+1 || l[most-1] != last || !slices.IsSorted(l) || x.Free() != 0 {
		t.Error(len(l), x.Free())
	}
}

// Rule 2: what Open and Settle answer is the caller's own.
func TestAnswersAreOwn(t *testing.T) {
	for _, c := range []struct {
		tag  uint64
		all  bool
		left []uint64
	}{
		{2, false, []uint64{1, 3, 4}}, {1, false, []uint64{2, 3, 4}}, {4, false, []uint64{1, 2, 3}}, {2, true, []uint64{3, 4}}, {0, true, nil},
	} {
		x := took(t, 4, 1, 2, 3, 4)
		open := x.Open()
		l, code := x.Settle(c.tag, c.all)
		if code != api.OK || !slices.Equal(open, []uint64{1, 2, 3, 4}) {
			t.Error(c.tag, code, "changed", open)
		}
		done := slices.Clone(l)
		x.Take(9)
		now := x.Open()
		if !slices.Equal(l, done) {
			t.Error(c.tag, "changed", l, "by what came behind it")
		}
		for _, own := range [][]uint64{open, l, now} {
			clear(own[:cap(own)])
		}
		if left := append(slices.Clone(c.left), 9); !has(x, 4-len(left), left...) {
			t.Error(c.tag, "shared:", x.Open())
		}
	}
}

// Rule 3: two of them have nothing in common.
func TestTwo(t *testing.T) {
	x, y := took(t, 2, 1, 2), took(t, 2, 2)
	x.Settle(0, true)
	x.Limit(9)
	if !has(x, 9) || !has(y, 1, 2) || y.Take(3) != api.OK || y.Take(4) != api.ErrFull {
		t.Error(x.Open(), y.Open())
	}
}

// Promise 15.1: of nil ErrState, whatever is asked; 0; nothing.
func TestNil(t *testing.T) {
	var x *Credit
	l := kindsOfCalls()
	for _, n := range wrongLimits() {
		l = append(l, call{what: limit, n: n})
	}
	for _, c := range l {
		if l, code := c.ask(x); code != api.ErrState || len(l) != 0 {
			t.Errorf("%+v: %v, %d", c, l, code)
		}
	}
	if x.Free() != 0 || len(x.Open()) != 0 {
		t.Error(x.Free(), x.Open())
	}
}

// Rule 1: one that New did not make is one without a limit.
func TestZero(t *testing.T) {
	b := &book{}
	x := &Credit{}
	for _, c := range append(kindsOfCalls(), kindsOfCalls()...) {
		b.agree(t, x, c)
	}
}

// The chapter's example.
func TestExample(t *testing.T) {
	x := New(1)
	if x.Take(5) != 0 || x.Take(6) != api.ErrFull {
		t.Error(x.Open())
	}
}
