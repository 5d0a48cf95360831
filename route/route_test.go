package route

import (
	"math"
	"slices"
	"strconv"
	"strings"
	"testing"

	"carrefour/api"
	"carrefour/point"
	"carrefour/topic"
)

// four are an exchange of each kind.
func four() []api.Exchange {
	return []api.Exchange{{Name: "d", Kind: api.Direct}, {Name: "f", Kind: api.Fanout}, {Name: "t", Kind: api.Topic}, {Name: "h", Kind: api.Hash}}
}

// named are n exchanges, and bound n bindings, that may be.
func named(n int) []api.Exchange {
	var x []api.Exchange
	for i := range n {
		x = append(x, api.Exchange{Name: "x" + strconv.Itoa(i), Kind: i%4 + 1})
	}
	return x
}

func bound(n int) []api.Binding {
	var l []api.Binding
	for i := range n {
		l = append(l, api.Binding{Ex: "d", Queue: "q" + strconv.Itoa(i/2), Key: "k" + strconv.Itoa(i%2)})
	}
	return l
}

// exchanges are such as may be one by one, and such as may not.
var exchanges = []struct {
	e  api.Exchange
	ok bool
}{
	{api.Exchange{Name: "a", Kind: api.Direct}, true},
	{api.Exchange{Name: "a", Kind: api.Fanout}, true},
	{api.Exchange{Name: "a", Kind: api.Topic}, true},
	{api.Exchange{Name: "a", Kind: api.Hash}, true},
	{api.Exchange{Name: "\x00", Kind: 1}, true},
	{api.Exchange{Name: "a.*.#", Kind: 1}, true},
	{api.Exchange{Name: "\xff \n", Kind: 2}, true},
	{api.Exchange{Name: strings.Repeat("x", 39), Kind: 3}, true},
	{api.Exchange{Name: strings.Repeat("x", 40), Kind: 3}, true},
	{api.Exchange{Name: strings.Repeat("x", 41), Kind: 3}, false},
	{api.Exchange{Name: strings.Repeat("\u65e5", 13) + "x", Kind: 4}, true},
	{api.Exchange{Name: strings.Repeat("\u65e5", 14), Kind: 4}, false},
	{api.Exchange{Name: strings.Repeat("x", 1<<20), Kind: 1}, false},
	{api.Exchange{}, false},
	{api.Exchange{Kind: 1}, false},
	{api.Exchange{Name: "a"}, false},
	{api.Exchange{Name: "a", Kind: 5}, false},
	{api.Exchange{Name: "a", Kind: -1}, false},
	{api.Exchange{Name: "a", Kind: 257}, false},
	{api.Exchange{Name: "a", Kind: math.MaxInt}, false},
	{api.Exchange{Name: "a", Kind: math.MinInt}, false},
}

// Promise 8.1, May: exchanges one by one, wherever they stand; their number; Names all unlike.
func TestMayExchanges(t *testing.T) {
	for _, c := range exchanges {
		for _, x := range [][]api.Exchange{{c.e}, append(four(), c.e), append([]api.Exchange{c.e}, four()...)} {
			if May(x, nil) != c.ok {
				t.Errorf("%.50q of kind %d: %t", c.e.Name, c.e.Kind, !c.ok)
			}
		}
	}
	for n, ok := range map[int]bool{0: true, 1: true, 15: true, 16: true, 17: false, 1 << 20: false} {
		if May(named(n), nil) != ok {
			t.Error(n, "exchanges:", !ok)
		}
	}
	for i := range 4 {
		same := four()[i]
		other := same
		other.Kind = other.Kind%4 + 1
		for _, e := range []api.Exchange{same, other} {
			if May(append(four(), e), nil) || May(append([]api.Exchange{e}, four()...), nil) {
				t.Error(e, "beside", same)
			}
		}
	}
	if !May([]api.Exchange{{Name: "a", Kind: 1}, {Name: "A", Kind: 1}, {Name: "a ", Kind: 1}, {Name: "aa", Kind: 1}}, nil) {
		t.Error("names that are unlike")
	}
}

// bindings are such as may be one by one of the four exchanges, and such as may not.
var bindings = []struct {
	b  api.Binding
	ok bool
}{
	{api.Binding{Ex: "d", Queue: "q"}, true},
	{api.Binding{Ex: "d", Queue: "q", Key: "k"}, true},
	{api.Binding{Ex: "f", Queue: "q"}, true},
	{api.Binding{Ex: "f", Queue: "q", Key: "k"}, true},
	{api.Binding{Ex: "t", Queue: "q"}, true},
	{api.Binding{Ex: "t", Queue: "q", Key: "k"}, true},
	{api.Binding{Ex: "h", Queue: "q", Weight: 1}, true},
	{api.Binding{Ex: "h", Queue: "q", Key: "k", Weight: 1}, true},
	{api.Binding{Ex: "d", Queue: "\xff*#.", Key: "\x00"}, true},

	{api.Binding{}, false},
	{api.Binding{Queue: "q"}, false},
	{api.Binding{Ex: "D", Queue: "q"}, false},
	{api.Binding{Ex: "dd", Queue: "q"}, false},
	{api.Binding{Ex: "d ", Queue: "q", Key: "k"}, false},
	{api.Binding{Ex: "z", Queue: "q", Weight: 1}, false},

	{api.Binding{Ex: "d"}, false},
	{api.Binding{Ex: "f", Key: "k"}, false},
	{api.Binding{Ex: "t", Key: "#"}, false},
	{api.Binding{Ex: "h", Weight: 1}, false},
	{api.Binding{Ex: "d", Queue: strings.Repeat("q", 40)}, true},
	{api.Binding{Ex: "h", Queue: strings.Repeat("q", 40), Weight: 4}, true},
	{api.Binding{Ex: "d", Queue: strings.Repeat("q", 41)}, false},
	{api.Binding{Ex: "f", Queue: strings.Repeat("q", 41)}, false},
	{api.Binding{Ex: "t", Queue: strings.Repeat("q", 41)}, false},
	{api.Binding{Ex: "h", Queue: strings.Repeat("q", 41), Weight: 1}, false},
	{api.Binding{Ex: "d", Queue: strings.Repeat("\u65e5", 14)}, false},

	{api.Binding{Ex: "d", Queue: "q", Key: strings.Repeat("k", 255)}, true},
	{api.Binding{Ex: "f", Queue: "q", Key: strings.Repeat("k", 255)}, true},
	{api.Binding{Ex: "t", Queue: "q", Key: strings.Repeat("k", 255)}, true},
	{api.Binding{Ex: "h", Queue: "q", Key: strings.Repeat("k", 255), Weight: 2}, true},
	{api.Binding{Ex: "d", Queue: "q", Key: strings.Repeat("k", 256)}, false},
	{api.Binding{Ex: "f", Queue: "q", Key: strings.Repeat("k", 256)}, false},
	{api.Binding{Ex: "t", Queue: "q", Key: strings.Repeat("k", 256)}, false},
	{api.Binding{Ex: "h", Queue: "q", Key: strings.Repeat("k", 256), Weight: 2}, false},
	{api.Binding{Ex: "d", Queue: "q", Key: strings.Repeat("\u65e5", 86)}, false},

	{api.Binding{Ex: "t", Queue: "q", Key: "#"}, true},
	{api.Binding{Ex: "t", Queue: "q", Key: "a.*.#"}, true},
	{api.Binding{Ex: "t", Queue: "q", Key: "a*"}, false},
	{api.Binding{Ex: "t", Queue: "q", Key: "a.##"}, false},
	{api.Binding{Ex: "t", Queue: "q", Key: strings.Repeat(".", 19)}, true},
	{api.Binding{Ex: "t", Queue: "q", Key: strings.Repeat(".", 20)}, false},
	{api.Binding{Ex: "d", Queue: "q", Key: "a*"}, true},
	{api.Binding{Ex: "f", Queue: "q", Key: "a.##"}, true},
	{api.Binding{Ex: "h", Queue: "q", Key: "#a", Weight: 3}, true},
	{api.Binding{Ex: "d", Queue: "q", Key: strings.Repeat(".", 20)}, true},

	{api.Binding{Ex: "h", Queue: "q"}, false},
	{api.Binding{Ex: "h", Queue: "q", Weight: 2}, true},
	{api.Binding{Ex: "h", Queue: "q", Weight: 4}, true},
	{api.Binding{Ex: "h", Queue: "q", Weight: 5}, false},
	{api.Binding{Ex: "h", Queue: "q", Weight: -1}, false},
	{api.Binding{Ex: "h", Queue: "q", Weight: math.MaxInt}, false},
	{api.Binding{Ex: "h", Queue: "q", Weight: math.MinInt}, false},
	{api.Binding{Ex: "d", Queue: "q", Weight: 1}, false},
	{api.Binding{Ex: "f", Queue: "q", Weight: 1}, false},
	{api.Binding{Ex: "t", Queue: "q", Weight: 4}, false},
	{api.Binding{Ex: "d", Queue: "q", Weight: -1}, false},
}

// Promise 8.1, May: bindings one by one, wherever they stand; their number.
func TestMayBindings(t *testing.T) {
	for _, c := range bindings {
		for _, l := range [][]api.Binding{{c.b}, append(bound(3), c.b), append([]api.Binding{c.b}, bound(3)...)} {
			if May(four(), l) != c.ok {
				t.Errorf("%.60q: %t", c.b.Ex+" "+c.b.Queue+" "+c.b.Key, !c.ok)
			}
		}
		if May(nil, []api.Binding{c.b}) {
			t.Error("a binding of no exchange")
		}
	}
	for n, ok := range map[int]bool{0: true, 1: true, 63: true, 64: true, 65: false, 1 << 20: false} {
		if May(four(), bound(n)) != ok {
			t.Error(n, "bindings:", !ok)
		}
	}
	for i := range 4 {
		lone := []api.Exchange{four()[i]}
		for _, c := range bindings {
			if May(lone, []api.Binding{c.b}) != (c.ok && c.b.Ex == lone[0].Name) {
				t.Error(c.b, "of", lone)
			}
		}
	}
	bad := append(four(), api.Exchange{Name: "e", Kind: 5})
	if May(bad, nil) || May(bad, bound(3)) {
		t.Error("exchanges that may not be")
	}
}

// Promise 8.1, May: no two are alike in Ex, Queue and Key together.
func TestMayAlike(t *testing.T) {
	for _, c := range []struct {
		a, b api.Binding
		ok   bool
	}{
		{api.Binding{Ex: "d", Queue: "q", Key: "k"}, api.Binding{Ex: "d", Queue: "q", Key: "k"}, false},
		{api.Binding{Ex: "d", Queue: "q", Key: "k"}, api.Binding{Ex: "f", Queue: "q", Key: "k"}, true},
		{api.Binding{Ex: "d", Queue: "q", Key: "k"}, api.Binding{Ex: "d", Queue: "k", Key: "q"}, true},
		{api.Binding{Ex: "d", Queue: "q", Key: "k"}, api.Binding{Ex: "d", Queue: "r", Key: "k"}, true},
		{api.Binding{Ex: "d", Queue: "q", Key: "k"}, api.Binding{Ex: "d", Queue: "q", Key: "l"}, true},
		{api.Binding{Ex: "d", Queue: "qk"}, api.Binding{Ex: "d", Queue: "q", Key: "k"}, true},
		{api.Binding{Ex: "f", Queue: "q"}, api.Binding{Ex: "f", Queue: "q"}, false},
		{api.Binding{Ex: "f", Queue: "q"}, api.Binding{Ex: "f", Queue: "q", Key: "k"}, true},
		{api.Binding{Ex: "t", Queue: "q", Key: "#"}, api.Binding{Ex: "t", Queue: "q", Key: "#"}, false},
		{api.Binding{Ex: "t", Queue: "q", Key: "#"}, api.Binding{Ex: "t", Queue: "q", Key: "#.#"}, true},
		{api.Binding{Ex: "h", Queue: "q", Weight: 1}, api.Binding{Ex: "h", Queue: "q", Weight: 1}, false},
		{api.Binding{Ex: "h", Queue: "q", Weight: 1}, api.Binding{Ex: "h", Queue: "q", Weight: 2}, false},
		{api.Binding{Ex: "h", Queue: "q", Weight: 1}, api.Binding{Ex: "h", Queue: "q", Key: "k", Weight: 1}, true},
	} {
		for _, between := range []int{0, 1, 60} {
			l := append([]api.Binding{c.a}, bound(between)...)
			if May(four(), append(l, c.b)) != c.ok {
				t.Error(c.a, c.b, !c.ok)
			}
		}
	}
}

// Promise 8.1, Find.
func TestFind(t *testing.T) {
	x := append(four(), api.Exchange{Name: "dd", Kind: api.Direct}, api.Exchange{Name: "\xff", Kind: api.Hash})
	for name, want := range map[string]int{"d": 0, "f": 1, "t": 2, "h": 3, "dd": 4, "\xff": 5, "": -1, "D": -1, "z": -1, "d ": -1, "ddd": -1, "\ufffd": -1} {
		if got := Find(x, name); got != want {
			t.Errorf("%q at %d, not at %d", name, got, want)
		}
		if Find(nil, name) != -1 || Find([]api.Exchange{}, name) != -1 {
			t.Errorf("%q among none", name)
		}
	}
}

// Promise 8.2, Declare: what becomes of the exchanges, and the code; the first that applies.
func TestDeclare(t *testing.T) {
	for _, c := range exchanges {
		for _, x := range [][]api.Exchange{nil, four(), named(15)} {
			want, code := append(slices.Clone(x), c.e), api.OK
			if !c.ok {
				want, code = x, api.ErrArg
			}
			if got, n := Declare(x, c.e); n != code || !slices.Equal(got, want) {
				t.Errorf("%.50q of kind %d: %d, %d exchanges", c.e.Name, c.e.Kind, n, len(got))
			}
		}
	}
	for i, e := range four() {
		if got, n := Declare(four(), e); n != api.OK || !slices.Equal(got, four()) {
			t.Error(e, "again:", n, got)
		}
		for _, kind := range []int{1, 2, 3, 4, 0, 5, -1, math.MaxInt} {
			if got, n := Declare(four(), api.Exchange{Name: e.Name, Kind: kind}); kind != i+1 && (n != api.Precond || !slices.Equal(got, four())) {
				t.Error(e, "as", kind, n, got)
			}
		}
	}
}

// Promise 8.2, Declare: no more than may be; those that are there are told first.
func TestDeclareFull(t *testing.T) {
	var x []api.Exchange
	for i, e := range named(20) {
		got, n := Declare(x, e)
		want, code := named(min(i+1, 16)), api.OK
		if i >= 16 {
			code = api.ErrArg
		}
		if n != code || !slices.Equal(got, want) {
			t.Fatal(i, n, got)
		}
		x = got
	}
	for _, e := range x {
		if got, n := Declare(x, e); n != api.OK || !slices.Equal(got, x) {
			t.Error(e, n)
		}
		e.Kind = 5 - e.Kind
		if got, n := Declare(x, e); n != api.Precond || !slices.Equal(got, x) {
			t.Error(e, n)
		}
	}
}

// Promise 8.2, Bind: what becomes of the bindings, and the code.
func TestBind(t *testing.T) {
	for _, c := range bindings {
		for _, l := range [][]api.Binding{nil, bound(3), bound(63)} {
			want, code := append(slices.Clone(l), c.b), api.OK
			switch {
			case Find(four(), c.b.Ex) < 0:
				want, code = l, api.NotFound
			case !c.ok:
				want, code = l, api.ErrArg
			}
			if got, n := Bind(four(), l, c.b); n != code || !slices.Equal(got, want) {
				t.Errorf("%.60q: %d, %d bindings", c.b.Ex+" "+c.b.Queue+" "+c.b.Key, n, len(got))
			}
			if got, n := Bind(nil, nil, c.b); n != api.NotFound || len(got) > 0 {
				t.Error("a binding of no exchange:", n, got)
			}
		}
	}
}

// Promise 8.2, Bind: one that is there already, just so or but for its Weight.
func TestBindAgain(t *testing.T) {
	l := append(bound(4), api.Binding{Ex: "h", Queue: "q", Weight: 2}, api.Binding{Ex: "h", Queue: "q", Key: "k", Weight: 4}, api.Binding{Ex: "t", Queue: "q", Key: "#"})
	for _, b := range l {
		for _, weight := range []int{0, 1, 2, 3, 4, 5, -1, math.MaxInt, math.MinInt} {
			code := api.Precond
			if weight == b.Weight {
				code = api.OK
			}
			again := b
			again.Weight = weight
			if got, n := Bind(four(), l, again); n != code || !slices.Equal(got, l) {
				t.Error(again, n, got)
			}
		}
		other := b
		other.Key += ".other"
		if got, n := Bind(four(), l, other); n != api.OK || !slices.Equal(got, append(slices.Clone(l), other)) {
			t.Error(other, n, got)
		}
	}
}

// Promise 8.2, Bind: no more than may be; those that are there, and no such Ex, are told first.
func TestBindFull(t *testing.T) {
	var l []api.Binding
	for i, b := range bound(70) {
		got, n := Bind(four(), l, b)
		want, code := bound(min(i+1, 64)), api.OK
		if i >= 64 {
			code = api.ErrArg
		}
		if n != code || !slices.Equal(got, want) {
			t.Fatal(i, n, len(got))
		}
		l = got
	}
	for _, b := range l {
		if got, n := Bind(four(), l, b); n != api.OK || !slices.Equal(got, l) {
			t.Error(b, n)
		}
		b.Weight = 1
		if got, n := Bind(four(), l, b); n != api.Precond || !slices.Equal(got, l) {
			t.Error(b, n)
		}
		b.Ex = "z"
		if got, n := Bind(four(), l, b); n != api.NotFound || !slices.Equal(got, l) {
			t.Error(b, n)
		}
	}
}

// Promise 8.3, Queues: of no exchange, the default one, and those without bindings.
func TestQueuesOfNone(t *testing.T) {
	l := []api.Binding{{Ex: "d", Queue: "a", Key: "k"}, {Ex: "f", Queue: "b"}, {Ex: "t", Queue: "c", Key: "#"}, {Ex: "h", Queue: "e", Weight: 1}}
	for _, key := range []string{"", "q", "k", "a b", "\xff", strings.Repeat("k", 256), strings.Repeat(".", 300)} {
		for _, x := range [][]api.Exchange{nil, four()} {
			if got, n := Queues(x, nil, "", key); n != api.OK || !slices.Equal(got, []string{key}) {
				t.Errorf("%.10q of the default exchange: %d %.20q", key, n, got)
			}
			for _, ex := range []string{"z", "D", "dd", " "} {
				if got, n := Queues(x, nil, ex, key); n != api.NotFound || len(got) > 0 {
					t.Error(ex, n, got)
				}
			}
		}
		if got, n := Queues(four(), l, "", key); n != api.OK || !slices.Equal(got, []string{key}) {
			t.Errorf("%.10q of the default exchange: %d %.20q", key, n, got)
		}
		if got, n := Queues(four(), l, "z", key); n != api.NotFound || len(got) > 0 {
			t.Error(n, got)
		}
		for i, e := range four() {
			if got, n := Queues(four(), nil, e.Name, key); n != api.OK || len(got) > 0 {
				t.Error(e, n, got)
			}
			others := slices.Delete(slices.Clone(l), i, i+1)
			if got, n := Queues(four(), others, e.Name, key); n != api.OK || len(got) > 0 {
				t.Error(e, "of others' bindings", n, got)
			}
		}
	}
}

// Promise 8.3, Queues: of Direct, Fanout and Topic; each once, in the order of bindings.
func TestQueues(t *testing.T) {
	x := append(four(), api.Exchange{Name: "d2", Kind: api.Direct}, api.Exchange{Name: "f2", Kind: api.Fanout}, api.Exchange{Name: "t2", Kind: api.Topic})
	l := []api.Binding{
		{Ex: "d", Queue: "c", Key: "k"}, {Ex: "d", Queue: "a", Key: "k"}, {Ex: "d2", Queue: "z", Key: "k"}, {Ex: "d", Queue: "b", Key: "l"},
		{Ex: "d", Queue: "c", Key: "l"}, {Ex: "d", Queue: "e", Key: ""}, {Ex: "d", Queue: "s", Key: "*"}, {Ex: "d", Queue: "m", Key: "#"},
		{Ex: "f", Queue: "c", Key: "1"}, {Ex: "f", Queue: "b", Key: "2"}, {Ex: "f2", Queue: "z"}, {Ex: "f", Queue: "c", Key: "3"}, {Ex: "f", Queue: "a", Key: "4"}, {Ex: "f", Queue: "b"},
		{Ex: "t", Queue: "c", Key: "a.#"}, {Ex: "t", Queue: "b", Key: "*"}, {Ex: "t2", Queue: "z", Key: "#"}, {Ex: "t", Queue: "a", Key: "#.b"}, {Ex: "t", Queue: "c", Key: "b"}, {Ex: "t", Queue: "e", Key: ""},
	}
	for _, c := range []struct{ ex, key, want string }{
		{"d", "k", "c a"}, {"d", "l", "b c"}, {"d", "", "e"}, {"d", "*", "s"}, {"d", "#", "m"}, {"d", "K", ""}, {"d", "k ", ""}, {"d", "c", ""}, {"d2", "k", "z"}, {"d2", "l", ""},
		{"f", "1", "c b a"}, {"f", "", "c b a"}, {"f", "any", "c b a"}, {"f", strings.Repeat("k", 256), "c b a"}, {"f2", "1", "z"},
		{"t", "a", "c b"}, {"t", "b", "b a c"}, {"t", "a.b", "c a"}, {"t", "a.c", "c"}, {"t", "", "e"}, {"t", "c", "b"}, {"t", "c.c", ""}, {"t", "a.#", "c"}, {"t2", "c.c", "z"},
		{"t", strings.Repeat("k", 255), "b"}, {"t", strings.Repeat("k", 256), ""}, {"t2", strings.Repeat(".", 19), "z"}, {"t2", strings.Repeat(".", 20), ""},
	} {
		if got, n := Queues(x, l, c.ex, c.key); n != api.OK || strings.Join(got, " ") != c.want {
			t.Errorf("%s, %.20q: %d %q, not %q", c.ex, c.key, n, got, c.want)
		}
	}
	if !May(x, l) {
		t.Error("they may not be")
	}
}

// Promise 8.3, Queues: of Hash, with places that were worked out apart from the
// program: c 1039016256, c 1640220813, a 2158147761, a 3025309703,
// a 3146871132, b 3328500163, a 3335147856.
func TestQueuesByHash(t *testing.T) {
	l := []api.Binding{{Ex: "f", Queue: "z"}, {Ex: "h", Queue: "a", Weight: 4}, {Ex: "h2", Queue: "y", Weight: 4}, {Ex: "h", Queue: "b", Key: "k", Weight: 1}, {Ex: "h", Queue: "c", Weight: 2}}
	x := append(four(), api.Exchange{Name: "h2", Kind: api.Hash})
	for _, c := range []struct{ key, want string }{
		{"five", "c"},  // 65279675: ahead of all
		{"", "c"},      // 760700053
		{"six", "c"},   // 1040388426
		{"10", "a"},    // 2124810225
		{"k", "a"},     // 2202434157
		{"two", "a"},   // 2325482594
		{"19", "c"},    // 3347799076: behind all, round
		{"seven", "c"}, // 3399039556
		{"11", "c"},    // 4184007518
		{"c#0", "c"},   // at a point
		{"c#1", "c"},   // at a point
		{"a#1", "a"},   // at a point
		{"a#3", "a"},   // at a point
		{"a#0", "a"},   // at a point
		{"b#0", "b"},   // at a point
		{"a#2", "a"},   // at a point
		{"b#1", "c"},   // 3895360605: no point of b, of Weight 1
		{"b#2", "a"},   // 2601766171: none
		{"c#2", "c"},   // 4070198726: none, but round
		{"21", "b"},    // 3263902790
		{"1787", "a"},  // 3331392454: behind b
	} {
		if got, n := Queues(x, l, "h", c.key); n != api.OK || !slices.Equal(got, []string{c.want}) {
			t.Errorf("%q: %d %q, not %q", c.key, n, got, c.want)
		}
		if got, n := Queues(x, l, "h2", c.key); n != api.OK || !slices.Equal(got, []string{"y"}) {
			t.Errorf("%q: %d %q, not the only one", c.key, n, got)
		}
	}
}

// Promise 8.3, Queues: of several points at one place the first binding's
// counts. These names have the same places, with any digit behind.
func TestQueuesByHashTie(t *testing.T) {
	for _, names := range [][2]string{{"costarring", "liquid"}, {"declinate", "macallums"}, {"altarage", "zinke"}} {
		for weights := range 16 {
			first, second := weights/4+1, weights%4+1
			for i := range 2 {
				a, b := names[i], names[1-i]
				if point.Of(a+"#3") != point.Of(b+"#3") {
					t.Fatal(names, "have places of their own")
				}
				l := []api.Binding{{Ex: "h", Queue: a, Weight: first}, {Ex: "h", Queue: b, Weight: second}}
				for d := range 4 {
					want := a
					if d >= first && d < second {
						want = b
					}
					if d >= max(first, second) {
						continue
					}
					if got, n := Queues(four(), l, "h", a+"#"+strconv.Itoa(d)); n != api.OK || !slices.Equal(got, []string{want}) {
						t.Error(l, d, n, got)
					}
				}
			}
		}
	}
}

// told is what chapter 8 says of Queues, another way: Hash by all points in one
// order from the key's place on.
func told(x []api.Exchange, l []api.Binding, ex, key string) []string {
	var queues []string
	type mark struct {
		way   uint32
		place int
	}
	var marks []mark
	for i, b := range l {
		if b.Ex != ex {
			continue
		}
		switch x[Find(x, ex)].Kind {
		case api.Direct:
			if b.Key == key {
				queues = append(queues, b.Queue)
			}
		case api.Fanout:
			queues = append(queues, b.Queue)
		case api.Topic:
			if topic.Match(b.Key, key) {
				queues = append(queues, b.Queue)
			}
		case api.Hash:
			for d := range b.Weight {
				marks = append(marks, mark{point.Way(point.Of(key), point.Of(b.Queue+"#"+string("0123"[d]))), i})
			}
		}
	}
	slices.SortStableFunc(marks, func(a, b mark) int {
		return int(int64(a.way) - int64(b.way))
	})
	if len(marks) > 0 {
		return []string{l[marks[0].place].Queue}
	}
	var once []string
	for i, q := range queues {
		if slices.Index(queues, q) == i {
			once = append(once, q)
		}
	}
	return once
}

// Promise 8.3, Queues: many lists, made by a short rule; they stay as they are.
func TestQueuesOfMany(t *testing.T) {
	x := append(four(), api.Exchange{Name: "g", Kind: api.Hash}, api.Exchange{Name: "e", Kind: api.Topic})
	keys := []string{"", "a", "b", "a.b", "b.a", "a.a.b", "*", "#"}
	n := uint32(1)
	pick := func(most int) int {
		n = n*1664525 + 1013904223
		return int(n>>16) % most
	}
	met := map[int]int{}
	for range 2_000 {
		var l []api.Binding
		for range pick(70) {
			b := api.Binding{Ex: x[pick(len(x))].Name, Queue: "q" + strconv.Itoa(pick(9)), Key: keys[pick(len(keys))]}
			if x[Find(x, b.Ex)].Kind == api.Hash {
				b.Weight = pick(4) + 1
			}
			l, _ = Bind(x, l, b)
		}
		was := slices.Clone(l)
		for _, e := range x {
			for _, key := range append(keys, "k"+strconv.Itoa(pick(1_000_000))) {
				got, code := Queues(x, l, e.Name, key)
				if want := told(x, l, e.Name, key); code != api.OK || !slices.Equal(got, want) {
					t.Fatalf("%s, %q of %v: %d %q, not %q", e.Name, key, l, code, got, want)
				}
				met[len(got)]++
			}
		}
		if !slices.Equal(l, was) || !May(x, l) {
			t.Fatal("the bindings are other now")
		}
	}
	if len(met) < 8 {
		t.Error(met)
	}
}

// Rule 2: what is handed in is not changed, not even behind a list's end, and
// what is answered is the caller's own.
func TestAnswersAreOwn(t *testing.T) {
	x := append(make([]api.Exchange, 0, 20), four()...)
	l := append(make([]api.Binding, 0, 20), bound(3)...)
	for _, e := range []api.Exchange{{Name: "new", Kind: 1}, x[2], {Name: x[1].Name, Kind: 4}, {Kind: 1}} {
		got, _ := Declare(x, e)
		clear(got)
		_ = append(got[:0], make([]api.Exchange, cap(got))...)
		if !slices.Equal(x, four()) || x[:5][4] != (api.Exchange{}) {
			t.Fatal(e, "changes what was handed in")
		}
	}
	for _, b := range []api.Binding{{Ex: "d", Queue: "new"}, l[1], {Ex: "d", Queue: l[1].Queue, Key: l[1].Key, Weight: 1}, {Ex: "z"}, {Ex: "d"}} {
		got, _ := Bind(x, l, b)
		clear(got)
		_ = append(got[:0], make([]api.Binding, cap(got))...)
		if !slices.Equal(x, four()) || !slices.Equal(l, bound(3)) || l[:4][3] != (api.Binding{}) {
			t.Fatal(b, "changes what was handed in")
		}
	}
	first, _ := Declare(x, api.Exchange{Name: "one", Kind: 1})
	second, _ := Declare(first, api.Exchange{Name: "two", Kind: 1})
	third, _ := Declare(first, api.Exchange{Name: "three", Kind: 1})
	if second[5].Name != "two" || third[5].Name != "three" || len(first) != 5 {
		t.Error("answers share their memory")
	}
	queues, _ := Queues(x, l, "d", "k0")
	clear(queues)
	if again, _ := Queues(x, l, "d", "k0"); !slices.Equal(again, []string{"q0", "q1"}) {
		t.Error(again)
	}
	if !slices.Equal(l, bound(3)) {
		t.Error("bindings are other now")
	}
}

// Rule 5: a nil list and an empty one are the same.
func TestNilAndEmpty(t *testing.T) {
	if !May(nil, nil) || !May([]api.Exchange{}, []api.Binding{}) {
		t.Error("none may not be")
	}
	e, b := four()[0], bound(1)[0]
	for _, x := range [][]api.Exchange{nil, {}} {
		if got, n := Declare(x, e); n != api.OK || !slices.Equal(got, four()[:1]) {
			t.Error(n, got)
		}
	}
	for _, l := range [][]api.Binding{nil, {}} {
		if got, n := Bind(four(), l, b); n != api.OK || !slices.Equal(got, bound(1)) {
			t.Error(n, got)
		}
	}
}

// Rule 1 and promise 8.2: calls end at lists that may not be.
func TestListsThatMayNotBe(t *testing.T) {
	odd := []api.Exchange{{}, {Name: "h", Kind: api.Hash}, {Name: "h", Kind: api.Direct}, {Name: "k", Kind: 9}, {Name: "k", Kind: -9}, {Kind: math.MinInt}}
	long := []api.Binding{{Ex: "h", Queue: "q", Weight: math.MaxInt}, {Ex: "h", Weight: math.MinInt}, {Ex: "h"}, {}, {Ex: "k", Queue: "q", Weight: 7}}
	for i := range 1 << 17 {
		long = append(long, api.Binding{Ex: []string{"h", "k", "t", "f"}[i%4], Queue: "q" + strconv.Itoa(i), Key: "#", Weight: math.MaxInt - i})
	}
	many := append(odd, named(1<<17)...)
	for _, x := range [][]api.Exchange{odd, many, four()} {
		for _, l := range [][]api.Binding{nil, long} {
			May(x, l)
			for _, e := range []string{"", "h", "k", "t", "f", "z"} {
				Find(x, e)
				Declare(x, api.Exchange{Name: e, Kind: math.MaxInt})
				Bind(x, l, api.Binding{Ex: e, Queue: "q", Weight: math.MaxInt})
				Queues(x, l, e, "")
				Queues(x, l, e, "#")
			}
		}
	}
}

// Promise 8.4: a message finds its queues: exchanges and bindings as they come,
// and each key from each of them, whatever was asked ahead.
func TestMessagesFindTheirQueues(t *testing.T) {
	var x []api.Exchange
	for _, e := range []api.Exchange{{Name: "orders", Kind: api.Direct}, {Name: "news", Kind: api.Fanout}, {Name: "logs", Kind: api.Topic}, {Name: "work", Kind: api.Hash}} {
		x, _ = Declare(x, e)
	}
	var l []api.Binding
	for _, b := range []api.Binding{
		{Ex: "orders", Queue: "bakery", Key: "bread"}, {Ex: "orders", Queue: "kitchen", Key: "bread"}, {Ex: "orders", Queue: "kitchen", Key: "soup"},
		{Ex: "news", Queue: "kitchen"}, {Ex: "news", Queue: "bakery"},
		{Ex: "logs", Queue: "errors", Key: "#.error"}, {Ex: "logs", Queue: "all", Key: "#"},
		{Ex: "work", Queue: "a", Weight: 4}, {Ex: "work", Queue: "b", Weight: 1}, {Ex: "work", Queue: "c", Weight: 2},
	} {
		var code int
		if l, code = Bind(x, l, b); code != api.OK {
			t.Fatal(b, code)
		}
	}
	for range 2 {
		for _, c := range []struct {
			ex, key string
			want    []string
		}{
			{"", "bakery", []string{"bakery"}},
			{"orders", "bread", []string{"bakery", "kitchen"}},
			{"orders", "soup", []string{"kitchen"}},
			{"orders", "tea", nil},
			{"news", "soup", []string{"kitchen", "bakery"}},
			{"logs", "disk.error", []string{"errors", "all"}},
			{"logs", "disk.full", []string{"all"}},
			{"work", "six", []string{"c"}},
			{"work", "two", []string{"a"}},
			{"work", "21", []string{"b"}},
		} {
			if got, n := Queues(x, l, c.ex, c.key); n != api.OK || !slices.Equal(got, c.want) {
				t.Errorf("%s, %s: %d %q, not %q", c.ex, c.key, n, got, c.want)
			}
		}
	}
	if got, n := Queues(x, l, "mail", "soup"); n != api.NotFound || len(got) > 0 {
		t.Error(n, got)
	}
}
