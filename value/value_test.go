package value

import (
	"math"
	"strings"
	"testing"

	"carrefour/api"
)

func num(kind int, n int64) api.Value { return api.Value{Kind: kind, N: n} }

func text(s string) api.Value { return api.Value{Kind: api.VText, S: s} }

func table(l ...api.Item) api.Value { return api.Value{Kind: api.VTable, Items: l} }

func item(name string, v api.Value) api.Item { return api.Item{Name: name, V: v} }

// deep is a table that goes so deep.
func deep(levels int) []api.Item {
	l := []api.Item{{Name: "x"}}
	for range levels - 1 {
		l = []api.Item{item("x", table(l...))}
	}
	return l
}

// many is a table of so many items, of a byte's name each.
func many(n int) []api.Item {
	var l []api.Item
	for k := range n {
		l = append(l, api.Item{Name: string(rune('0' + k))})
	}
	return l
}

// loop is a list of two items, the second one's items being the list itself.
func loop() []api.Item {
	l := []api.Item{{Name: "a"}, {Name: "b", V: api.Value{Kind: api.VTable}}}
	l[1].V.Items = l
	return l
}

// knot is n lists of n items each, each item of which holds another of the lists.
func knot(n int) []api.Item {
	lists := make([][]api.Item, n)
	for k := range lists {
		lists[k] = many(n)
	}
	for k := range lists {
		for m := range lists[k] {
			lists[k][m].V = table(lists[m]...)
		}
	}
	return lists[0]
}

// thick is a table of 32 items in which each one's value is one and the same table, so deep.
func thick(levels int) []api.Item {
	l := many(api.MaxItems)
	for range levels - 1 {
		up := many(api.MaxItems)
		for k := range up {
			up[k].V = api.Value{Kind: api.VTable, Items: l}
		}
		l = up
	}
	return l
}

// Promise 3.1, May: what may be.
func TestMay(t *testing.T) {
	for k, v := range []api.Value{
		{},
		{Items: []api.Item{}},
		num(api.VBool, 0),
		num(api.VBool, 1),
		{Kind: api.VBool, N: 1, Items: []api.Item{}},
		num(api.VInt, 0),
		num(api.VInt, -1),
		num(api.VInt, math.MaxInt32),
		num(api.VInt, math.MinInt32),
		num(api.VLong, 0),
		num(api.VLong, -1),
		num(api.VLong, math.MaxInt32+1),
		num(api.VLong, math.MaxInt64),
		num(api.VLong, math.MinInt64),
		text(""),
		text("a"),
		text("\x00\xff"),
		text(strings.Repeat("x", 200)),
		text(strings.Repeat("\u00e9", 100)),
		table(),
		table(many(1)...),
		table(many(32)...),
		table(deep(4)...),
		table(item("a", text("b")), item("b", num(api.VInt, 7))),
	} {
		if !May(v) {
			t.Errorf("%d: %+v may be", k, v)
		}
	}
}

// Promise 3.1, May: what may not be.
func TestMayNot(t *testing.T) {
	one := many(1)
	for k, v := range []api.Value{
		{N: 1},
		{N: math.MinInt64},
		{S: "x"},
		{Items: one},
		num(api.VBool, 2),
		num(api.VBool, -1),
		num(api.VBool, 256),
		num(api.VBool, 1<<32),
		{Kind: api.VBool, S: "x"},
		{Kind: api.VBool, N: 1, Items: one},
		num(api.VInt, math.MaxInt32+1),
		num(api.VInt, math.MinInt32-1),
		num(api.VInt, 1<<32),
		num(api.VInt, math.MaxInt64),
		num(api.VInt, math.MinInt64),
		{Kind: api.VInt, S: "x"},
		{Kind: api.VInt, Items: one},
		{Kind: api.VLong, S: "x"},
		{Kind: api.VLong, Items: one},
		text(strings.Repeat("x", 201)),
		text(strings.Repeat("\u00e9", 101)),
		text(strings.Repeat("x", 456)),
		{Kind: api.VText, N: 1},
		{Kind: api.VText, S: "x", N: -1},
		{Kind: api.VText, Items: one},
		{Kind: api.VTable, N: 1},
		{Kind: api.VTable, S: "x"},
		{Kind: api.VTable, Items: one, N: 1},
		table(api.Item{}),
		table(many(33)...),
		table(deep(5)...),
		table(item("a", text("")), item("a", text(""))),
		table(item("a", num(api.VBool, 2))),
		{Kind: 6},
		{Kind: -1},
		{Kind: 256},
		{Kind: math.MaxInt},
		{Kind: math.MinInt},
	} {
		if May(v) {
			t.Errorf("%d: %+v may not be", k, v)
		}
	}
}

// Promise 3.1, MayTable: what may be.
func TestMayTable(t *testing.T) {
	for k, l := range [][]api.Item{
		nil,
		{},
		many(1),
		many(31),
		many(32),
		{{Name: "a"}, {Name: "A"}, {Name: "aa"}, {Name: "a "}, {Name: "\x00"}, {Name: "\xff"}},
		{{Name: strings.Repeat("n", 40)}, {Name: strings.Repeat("n", 39)}, {Name: strings.Repeat("n", 39) + "m"}},
		{{Name: strings.Repeat("\u00e9", 20)}},
		{item("a", table(item("a", table(item("a", text("a")))))), item("b", table(item("a", text("a"))))},
		deep(2),
		deep(3),
		deep(4),
		{item("a", table()), item("b", table(deep(3)...)), item("c", table(deep(3)...))},
		thick(4),
	} {
		if !MayTable(l) {
			t.Errorf("%d: may be a table", k)
		}
	}
}

// Promise 3.1, MayTable: what may not be.
func TestMayTableNot(t *testing.T) {
	twice := many(32)
	twice[31].Name = twice[0].Name
	next := many(32)
	next[31].Name = next[30].Name
	bad := many(32)
	bad[31].V.N = 1
	lowest := deep(3)
	lowest[0].V.Items[0].V.Items[0].V = text(strings.Repeat("x", 201))
	for k, l := range [][]api.Item{
		{{}},
		{{Name: "a"}, {}},
		{{V: text("x")}},
		many(33),
		many(1000),
		{{Name: strings.Repeat("n", 41)}},
		{{Name: strings.Repeat("\u00e9", 21)}},
		{{Name: strings.Repeat("n", 257)}},
		{{Name: "a"}, {Name: "a"}},
		{item("a", text("x")), item("b", text("x")), item("a", num(api.VInt, 1))},
		twice,
		next,
		bad,
		lowest,
		deep(5),
		deep(6),
		deep(100_000),
		{item("a", table(item("b", table(item("c", table(item("d", table()))))))), {Name: "b"}},
		{{Name: "a"}, item("b", table(deep(4)...))},
		{item("a", table(api.Item{}))},
		{item("a", table(many(33)...))},
		{item("a", table(item("b", text("")), item("b", text(""))))},
		{item("a", api.Value{Kind: 6})},
		loop(),
		knot(32),
		thick(5),
	} {
		if MayTable(l) {
			t.Errorf("%d: may not be a table", k)
		}
	}
}

// Promise 3.1, and rule 1: where a list holds itself in a VNone, too.
func TestMayEnds(t *testing.T) {
	l := []api.Item{{Name: "a"}}
	l[0].V.Items = l
	if MayTable(l) || May(table(l...)) || May(api.Value{Items: l}) || May(table(loop()...)) {
		t.Error("a list that holds itself may not be")
	}
}
