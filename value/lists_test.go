package value

import (
	"strings"
	"testing"

	"carrefour/api"
)

// sample has all kinds, some within others. It is made anew each time.
func sample() []api.Item {
	return []api.Item{
		{Name: "a"},
		item("b", num(api.VBool, 1)),
		item("c", num(api.VInt, -2)),
		item("d", num(api.VLong, 1<<40)),
		item("e", text("hi")),
		item("f", table(item("g", text("x")), item("h", table(item("i", num(api.VInt, 9))))))}
}

// Promise 3.2, Same: lists that are the same.
func TestSame(t *testing.T) {
	for k, x := range [][2][]api.Item{
		{nil, nil},
		{nil, {}},
		{{}, nil},
		{sample(), sample()},
		{deep(4), deep(4)},
		{many(33), many(33)},
		{{item("a", table())}, {item("a", api.Value{Kind: api.VTable, Items: []api.Item{}})}},
		{{{}, {}}, {{}, {}}},
		{{item("a", api.Value{Kind: -3, N: 5, S: "x", Items: many(2)})}, {item("a", api.Value{Kind: -3, N: 5, S: "x", Items: many(2)})}},
		{many(5)[1:3:3], many(5)[1:3]},
		{thick(4), thick(4)},
		{thick(40), thick(40)},
	} {
		if !Same(x[0], x[1]) || !Same(x[1], x[0]) {
			t.Errorf("%d: they are the same", k)
		}
	}
	l := sample()
	if !Same(l, l) {
		t.Error("a list and itself")
	}
}

// Promise 3.2, Same: with one part other, wherever it is, they are not.
func TestSameNot(t *testing.T) {
	for k, change := range []func(l []api.Item){
		func(l []api.Item) { l[0].Name = "A" },
		func(l []api.Item) { l[0].Name = "" },
		func(l []api.Item) { l[5].Name = "ff" },
		func(l []api.Item) { l[0].V.Kind = api.VTable },
		func(l []api.Item) { l[0].V.Kind = api.VText },
		func(l []api.Item) { l[0].V.N = 1 },
		func(l []api.Item) { l[0].V.S = "x" },
		func(l []api.Item) { l[0].V.Items = many(1) },
		func(l []api.Item) { l[1].V.N = 0 },
		func(l []api.Item) { l[1].V.Kind = api.VInt },
		func(l []api.Item) { l[2].V.N = 2 },
		func(l []api.Item) { l[2].V.N += 1 << 32 },
		func(l []api.Item) { l[2].V.Kind = api.VLong },
		func(l []api.Item) { l[3].V.N++ },
		func(l []api.Item) { l[4].V.S = "Hi" },
		func(l []api.Item) { l[4].V.S = "hi\x00" },
		func(l []api.Item) { l[4].V.N = 1 },
		func(l []api.Item) { l[5].V.Items = nil },
		func(l []api.Item) { l[5].V.Items = l[5].V.Items[:1] },
		func(l []api.Item) { l[5].V.Items = append(l[5].V.Items, api.Item{Name: "z"}) },
		func(l []api.Item) { l[5].V.Items[0].Name = "z" },
		func(l []api.Item) { l[5].V.Items[0].V.S = "y" },
		func(l []api.Item) { l[5].V.Items[1].V.Items[0].V.N = 8 },
		func(l []api.Item) { l[5].V.Items[1].V.Items = nil },
		func(l []api.Item) { l[0], l[1] = l[1], l[0] },
		func(l []api.Item) { l[4], l[5] = l[5], l[4] },
	} {
		other := sample()
		change(other)
		if Same(sample(), other) || Same(other, sample()) {
			t.Errorf("%d: they are not the same", k)
		}
	}
	for k, x := range [][2][]api.Item{
		{nil, {{}}},
		{many(2), many(3)},
		{many(3), many(3)[1:]},
		{deep(3), deep(4)},
		{deep(100), deep(101)},
		{thick(40), thick(41)},
	} {
		if Same(x[0], x[1]) || Same(x[1], x[0]) {
			t.Errorf("%d: they are not the same", k)
		}
	}
}

// Promise 3.2, Same: one list met beside two others is held against each of them.
func TestSameSharing(t *testing.T) {
	one, two := many(2), many(2)
	two[1].V.N = 7
	shared := []api.Item{item("a", table(one...)), item("b", table(one...)), {Name: "c"}}
	apart := []api.Item{item("a", table(many(2)...)), item("b", table(many(2)...)), {Name: "c"}}
	unlike := []api.Item{item("a", table(one...)), item("b", table(two...)), {Name: "c"}}
	if !Same(shared, apart) || !Same(apart, shared) {
		t.Error("shared or apart, they are the same")
	}
	if Same(shared, unlike) || Same(unlike, apart) {
		t.Error("one of them is other")
	}
	shorter := []api.Item{item("a", table(one...)), item("b", table(one[:1]...)), {Name: "c"}}
	if Same(shared, shorter) || Same(shorter, apart) {
		t.Error("one of them is shorter")
	}
	for _, n := range []int{1, 2} {
		pieces := func(l []api.Item) []api.Item {
			return []api.Item{item("a", table(l[:n]...)), item("b", table(l[:3-n]...))}
		}
		if Same(pieces(one), pieces(two)) || Same(pieces(two), pieces(one)) || !Same(pieces(one), pieces(many(2))) {
			t.Error("pieces of one list are lists of their own", n)
		}
	}
}

// Rule 1, Same: lists without an end, and very deep ones.
func TestSameEnds(t *testing.T) {
	if !Same(loop(), loop()) || !Same(knot(32), knot(32)) || !Same(deep(300_000), deep(300_000)) {
		t.Error("they are the same")
	}
	twice := loop()
	twice[1].V.Items = loop()
	if !Same(loop(), twice) || !Same(twice, loop()) {
		t.Error("once round or twice, they are the same")
	}
	other := loop()
	other[1].V.Items = loop()
	other[1].V.Items[0].V.N = 1
	if Same(loop(), other) || Same(other, loop()) || Same(loop(), deep(50)) || Same(knot(32), knot(31)) {
		t.Error("they are not the same")
	}
}

// Promise 3.2, Find.
func TestFind(t *testing.T) {
	for _, x := range sample() {
		got := Find(sample(), x.Name)
		if !Same([]api.Item{{V: got}}, []api.Item{{V: x.V}}) {
			t.Errorf("%s: %+v, not %+v", x.Name, got, x.V)
		}
	}
	none := func(v api.Value) bool { return v.Kind == api.VNone && v.N == 0 && v.S == "" && len(v.Items) == 0 }
	for _, name := range []string{"", "A", "aa", "g", "h", "i", "z", "a\x00", strings.Repeat("n", 41)} {
		if got := Find(sample(), name); !none(got) {
			t.Errorf("%q: %+v", name, got)
		}
	}
	if !none(Find(nil, "a")) || !none(Find(nil, "")) || !none(Find([]api.Item{}, "a")) {
		t.Error("of no items")
	}
	if got := Find(sample()[5].V.Items, "g"); got.S != "x" {
		t.Error("of a table within", got)
	}
}

// Promise 3.2, Find: of lists that are no tables, too: the first item, whatever its value is.
func TestFindInNoTable(t *testing.T) {
	l := []api.Item{item("a", num(api.VInt, 1)), item("a", num(api.VInt, 2)), item("", text("x")), item("b", api.Value{Kind: 9, N: 5, S: "y", Items: many(40)})}
	if got := Find(l, "a"); got.N != 1 {
		t.Error("twice", got)
	}
	if got := Find(l, ""); got.S != "x" {
		t.Error("without a name", got)
	}
	if got := Find(l, "b"); got.Kind != 9 || got.N != 5 || got.S != "y" || !Same(got.Items, many(40)) {
		t.Error("of no kind", got)
	}
	if got := Find([]api.Item{item("x", table(deep(9)...))}, "x"); !Same(got.Items, deep(9)) {
		t.Error("too deep", got)
	}
}

// Rule 2, Find: the value is the caller's own, in all its lists.
func TestFindIsOwn(t *testing.T) {
	l := sample()
	got := Find(l, "f")
	got.Items[0].Name = "z"
	got.Items[1].V.Items[0].V.N = 0
	if !Same(l, sample()) {
		t.Error("what was handed in is other now")
	}
	got = Find(l, "f")
	l[5].V.Items[1].V.Items[0].V.N = 0
	if !Same(got.Items, sample()[5].V.Items) {
		t.Error("what was answered is other now")
	}
	room := many(3)
	got = Find([]api.Item{item("a", api.Value{Kind: api.VTable, Items: room[:0]})}, "a")
	_ = append(got.Items, api.Item{Name: "z"})
	got = Find([]api.Item{item("a", api.Value{Kind: api.VTable, Items: room[:1]})}, "a")
	_ = append(got.Items, api.Item{Name: "z"})
	if !Same(room, many(3)) {
		t.Error("the room behind a list is the caller's")
	}
	shared := many(2)
	got = Find([]api.Item{item("a", table(item("b", table(shared...)), item("c", table(shared...))))}, "a")
	got.Items[0].V.Items[0].Name = "z"
	if !Same(got.Items[1].V.Items, many(2)) {
		t.Error("two lists of an answer share memory")
	}
}

// Rule 1, Find: values without an end, and very deep ones.
func TestFindEnds(t *testing.T) {
	l := loop()
	got := Find(l, "b")
	if got.Kind != api.VTable || !Same(got.Items, l) {
		t.Error("a list that holds itself")
	}
	got.Items[0].Name = "z"
	if l[0].Name != "a" || got.Items[1].V.Items[0].Name == "a" {
		t.Error("the answer's end is in what was handed in")
	}
	piece := many(2)
	piece[0].V.Items, piece[1].V.Items = piece[:1], piece
	if got := Find([]api.Item{item("x", table(piece...))}, "x"); !Same(got.Items, piece) || len(got.Items[0].V.Items) != 1 || len(got.Items[1].V.Items) != 2 {
		t.Error("a list that holds itself and a piece of itself")
	}
	tied := knot(32)
	if got := Find(tied, "0"); !Same(got.Items, tied) {
		t.Error("lists that hold each other")
	}
	far := []api.Item{item("x", table(deep(300_000)...))}
	if got := Find(far, "x"); !Same(got.Items, far[0].V.Items) {
		t.Error("a very deep list")
	}
}

// Rules 2 and 3: nothing that is handed in is changed, and the same is answered again.
func TestNothingIsChanged(t *testing.T) {
	l := sample()
	first, _ := Put(l)
	for range 3 {
		MayTable(l)
		May(l[5].V)
		Same(l, sample())
		Find(l, "f")
		Find(l, "z")
		b, code := Put(l)
		if code != api.OK || string(b) != string(first) || !Same(l, sample()) {
			t.Fatal("other", code)
		}
	}
}
