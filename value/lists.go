package value

import (
	"slices"

	"carrefour/api"
)

// Same and Find take lists that may be no tables: as deep as memory allows,
// or holding themselves. So nothing here calls itself, and what goes into
// lists knows them by their places, lest it go round for ever.

// place tells one list in memory from others, but for empty ones.
type place struct {
	first *api.Item
	many  int
}

func placeOf(l []api.Item) place {
	if len(l) == 0 {
		return place{}
	}
	return place{&l[0], len(l)}
}

// couple is two lists, as long as each other, that are to be the same.
type couple struct{ a, b []api.Item }

// couplePlace tells one couple in memory from others.
type couplePlace struct{ a, b place }

func (c couple) place() couplePlace { return couplePlace{placeOf(c.a), placeOf(c.b)} }

// Same tells whether a and b are the same in all parts. A couple that was
// met ahead is taken as the same: if it isn't, that shows where it was met.
func Same(a, b []api.Item) bool {
	if len(a) != len(b) {
		return false
	}
	met := map[couplePlace]struct{}{}
	todo := []couple{{a, b}}
more:
	if len(todo) == 0 {
		return true
	}
	c := todo[len(todo)-1]
	todo = todo[:len(todo)-1]
	if _, ok := met[c.place()]; ok {
		goto more
	}
	met[c.place()] = struct{}{}
	for k := range c.a {
		x, y := c.a[k], c.b[k]
		if !alike(x, y) {
			return false
		}
		if len(x.V.Items) > 0 {
			todo = append(todo, couple{x.V.Items, y.V.Items})
		}
	}
	goto more
}

// alike tells whether x and y are the same but for the items within.
func alike(x, y api.Item) bool {
	return x.Name == y.Name && x.V.Kind == y.V.Kind && x.V.N == y.V.N && x.V.S == y.V.S &&
		len(x.V.Items) == len(y.V.Items)
}

// own is v with lists that are nobody else's. Only where v has no end is a
// list copied once for all that hold it.
func own(v api.Value) api.Value {
	noEnd := endless(v.Items)
	copies := map[place][]api.Item{}
	todo := []*api.Value{&v}
more:
	if len(todo) == 0 {
		return v
	}
	x := todo[len(todo)-1]
	todo = todo[:len(todo)-1]
	at := placeOf(x.Items)
	if l, ok := copies[at]; ok && noEnd {
		x.Items = l
		goto more
	}
	x.Items = slices.Clone(x.Items)
	copies[at] = x.Items
	for k := range x.Items {
		todo = append(todo, &x.Items[k].V)
	}
	goto more
}

// visit is a list, and its next item to be looked into.
type visit struct {
	l    []api.Item
	next int
}

// endless tells whether l, or a list within, holds itself.
func endless(l []api.Item) bool {
	const onWay, done = 1, 2
	state := map[place]int{}
	way := []visit{{l: []api.Item{{V: api.Value{Items: l}}}}}
more:
	if len(way) == 0 {
		return false
	}
	top := &way[len(way)-1]
	if top.next == len(top.l) {
		state[placeOf(top.l)] = done
		way = way[:len(way)-1]
		goto more
	}
	in := top.l[top.next].V.Items
	top.next++
	if len(in) == 0 {
		goto more
	}
	switch state[placeOf(in)] {
	case onWay:
		return true
	case done:
		goto more
	}
	state[placeOf(in)] = onWay
	way = append(way, visit{l: in})
	goto more
}
