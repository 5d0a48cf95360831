package ring

import (
	"math"
	"slices"
	"strconv"
	"testing"

	"carrefour/api"
	"carrefour/point"
)

// three are arcs of two shards; the last one goes round.
func three() []api.Arc {
	return []api.Arc{{From: 10, Shard: 0}, {From: 20, Shard: 1}, {From: 1 << 31, Shard: 0}}
}

// apart are n arcs, gap points apart from 7 on, of shards 0 and 1 by turns.
func apart(n int, gap uint32) []api.Arc {
	var l []api.Arc
	for i := range n {
		l = append(l, api.Arc{From: 7 + uint32(i)*gap, Shard: i % 2})
	}
	return l
}

// of are n arcs of one shard, 100 points apart.
func of(n, shard int) []api.Arc {
	var l []api.Arc
	for i := range n {
		l = append(l, api.Arc{From: uint32(i) * 100, Shard: shard})
	}
	return l
}

// bad are lists that may not be.
func bad() [][]api.Arc {
	return [][]api.Arc{
		nil,
		{},
		{{Shard: -1}},
		{{Shard: 16}},
		{{Shard: math.MinInt}},
		{{Shard: math.MaxInt}},
		{{Shard: 256}},
		{{Shard: 1 << 32}},
		{{From: 5}, {From: 5}},
		{{From: 5}, {From: 5, Shard: 1}},
		{{From: 6}, {From: 5}},
		{{From: 1<<32 - 1}, {From: 0}},
		{{From: 1}, {From: 2}, {From: 2}},
		{{From: 1}, {From: 3}, {From: 2}},
		{{From: 2}, {From: 1}, {From: 3}},
		{{From: 1}, {From: 2}, {From: 3, Shard: 16}},
		{{From: 1}, {From: 2, Shard: -1}, {From: 3}},
		{{From: 1, Shard: 16}, {From: 2}, {From: 3}},
		of(1025, 0),
		of(1<<16, 3),
	}
}

// good are lists that may be.
func good() [][]api.Arc {
	return [][]api.Arc{
		{{}},
		{{From: 1<<32 - 1, Shard: 15}},
		{{From: 1 << 31, Shard: 2}},
		{{From: 1<<31 - 1, Shard: 2}},
		{{From: 0}, {From: 1}},
		{{From: 0}, {From: 1<<32 - 1, Shard: 15}},
		{{From: 1<<31 - 1}, {From: 1 << 31, Shard: 1}},
		{{From: 1}, {From: 2}, {From: 3}},
		{{From: 4, Shard: 1}, {From: 6}, {From: 9, Shard: 1}, {From: 1<<32 - 2, Shard: 1}},
		three(),
		apart(1023, 100),
		apart(1024, 1),
		of(1024, 15),
		of(512, 1),
	}
}

// Promise 9.1, May.
func TestMay(t *testing.T) {
	for i, l := range good() {
		if !May(l) {
			t.Error("good", i, "may not be")
		}
	}
	for i, l := range bad() {
		if May(l) {
			t.Error("bad", i, "may be")
		}
	}
	for shard := -3; shard < 20; shard++ {
		for k := range 3 {
			l := three()
			l[k].Shard = shard
			if May(l) != (shard >= 0 && shard < 16) {
				t.Error("shard", shard, "of arc", k)
			}
		}
	}
	for _, n := range []int{1, 2, 1023, 1024} {
		if !May(of(n, 0)) {
			t.Error(n, "arcs may not be")
		}
	}
}

// Promise 9.1: of what may not be -1, 0, nothing.
func TestOfWhatMayNotBe(t *testing.T) {
	for i, l := range bad() {
		for _, p := range []uint32{0, 1, 2, 5, 1 << 31, 1<<32 - 1} {
			if got := Owner(l, p); got != -1 {
				t.Errorf("bad %d: Owner of %d is %d", i, p, got)
			}
		}
		for k := range 3 {
			if Width(l, k) != 0 || Share(l, k) != 0 || len(Halve(l, k, 1)) != 0 {
				t.Errorf("bad %d, %d: %d, %d, %v", i, k, Width(l, k), Share(l, k), Halve(l, k, 1))
			}
		}
	}
}

// Promise 9.1, Build: the arcs were worked out apart from this program.
func TestBuild(t *testing.T) {
	for _, c := range []struct {
		weights []int
		want    []api.Arc
	}{
		{[]int{1}, []api.Arc{
			{From: 389640488}, {From: 549526624}, {From: 1875591572}, {From: 2407252079},
			{From: 2796100680}, {From: 2939309814}, {From: 2956458800}, {From: 3956664609},
		}},
		{[]int{1, 0, 2}, []api.Arc{
			{From: 7982573, Shard: 2}, {From: 59311836, Shard: 2}, {From: 389640488}, {From: 549526624},
			{From: 959653416, Shard: 2}, {From: 1165247525, Shard: 2}, {From: 1484132813, Shard: 2}, {From: 1569914213, Shard: 2},
			{From: 1677790663, Shard: 2}, {From: 1731439956, Shard: 2}, {From: 1763583419, Shard: 2}, {From: 1875591572},
			{From: 2154820534, Shard: 2}, {From: 2407252079}, {From: 2433745770, Shard: 2}, {From: 2592594771, Shard: 2},
			{From: 2796100680}, {From: 2906648934, Shard: 2}, {From: 2939309814}, {From: 2956458800},
			{From: 3034453814, Shard: 2}, {From: 3152213699, Shard: 2}, {From: 3770129953, Shard: 2}, {From: 3956664609},
		}},
	} {
		got, code := Build(c.weights)
		if code != api.OK || !slices.Equal(got, c.want) {
			t.Errorf("Build(%v) = %v, %d, not %v", c.weights, got, code, c.want)
		}
	}
}

// allOf are n weights that are alike.
func allOf(n, weight int) []int {
	return slices.Repeat([]int{weight}, n)
}

// inTurn are all lists of one to three weights that may be, and some that are longer.
func inTurn() [][]int {
	l := [][]int{
		{1, 0, 2, 4}, {0, 0, 0, 0, 0, 3}, {4, 3, 2, 1, 0, 1, 2, 3, 4},
		allOf(15, 2), allOf(16, 1), allOf(16, 4),
		append(allOf(15, 0), 1), append([]int{4}, allOf(15, 0)...),
	}
	for n := 1; n <= 3; n++ {
		for x := 1; x < 125; x++ {
			if n == 1 && x >= 5 || n == 2 && x >= 25 {
				continue
			}
			l = append(l, []int{x % 5, x / 5 % 5, x / 25}[:n])
		}
	}
	return l
}

// Promise 9.1, Build: of each shard Points points for each weight, by rising points.
func TestBuildByWeights(t *testing.T) {
	for _, weights := range inTurn() {
		l, code := Build(weights)
		if code != api.OK || !May(l) {
			t.Fatalf("Build(%v) = %v, %d", weights, l, code)
		}
		want := map[uint32]int{}
		for shard, weight := range slices.Backward(weights) {
			for i := range 8 * weight {
				want[point.Of(strconv.Itoa(shard)+"/"+strconv.Itoa(i))] = shard
			}
		}
		if len(l) != len(want) {
			t.Errorf("Build(%v): %d arcs, not %d", weights, len(l), len(want))
		}
		for _, a := range l {
			if shard, ok := want[a.From]; !ok || shard != a.Shard {
				t.Errorf("Build(%v): arc %v", weights, a)
			}
		}
	}
}

// Promise 9.1, Build: no weights, too many, one out of range, none above 0.
func TestBuildErrArg(t *testing.T) {
	for _, weights := range [][]int{
		nil, {}, {0}, {0, 0}, allOf(16, 0), allOf(17, 1), allOf(17, 0), append(allOf(16, 1), 0), allOf(1<<20, 4),
		{5}, {-1}, {1, 5}, {5, 1}, {1, -1}, {-1, 1}, {-1, 0}, {1, 2, -1, 4}, {1, 2, 5, 4}, append(allOf(15, 1), 5), append(allOf(15, 1), -1),
		{math.MaxInt}, {math.MinInt}, {1, math.MinInt}, {math.MaxInt, 1}, {1 << 32}, {1<<32 + 1}, {1 << 61}, {256 + 1},
	} {
		if l, code := Build(weights); code != api.ErrArg || len(l) != 0 {
			t.Errorf("Build of %d weights: %v, %d", len(weights), l, code)
		}
	}
}

// Promise 9.1, Build: of alike points the least shard's alone. No marks of the
// shards that may be are alike, so it is asked of what Build lays them by.
func TestLay(t *testing.T) {
	for _, c := range []struct{ l, want []api.Arc }{
		{nil, nil},
		{[]api.Arc{{From: 9, Shard: 1}}, []api.Arc{{From: 9, Shard: 1}}},
		{[]api.Arc{{From: 9, Shard: 1}, {From: 9, Shard: 1}}, []api.Arc{{From: 9, Shard: 1}}},
		{[]api.Arc{{From: 9, Shard: 1}, {From: 9, Shard: 2}}, []api.Arc{{From: 9, Shard: 1}}},
		{[]api.Arc{{From: 9, Shard: 2}, {From: 9, Shard: 1}}, []api.Arc{{From: 9, Shard: 1}}},
		{
			[]api.Arc{{From: 9, Shard: 2}, {From: 1<<32 - 1, Shard: 1}, {From: 9, Shard: 0}, {From: 0, Shard: 3}, {From: 9, Shard: 1}},
			[]api.Arc{{From: 0, Shard: 3}, {From: 9, Shard: 0}, {From: 1<<32 - 1, Shard: 1}},
		},
		{
			[]api.Arc{{From: 8, Shard: 5}, {From: 7, Shard: 5}, {From: 8, Shard: 4}, {From: 7, Shard: 6}},
			[]api.Arc{{From: 7, Shard: 5}, {From: 8, Shard: 4}},
		},
	} {
		if got := lay(slices.Clone(c.l)); !slices.Equal(got, c.want) {
			t.Errorf("lay(%v) = %v, not %v", c.l, got, c.want)
		}
	}
}

// Promise 9.2, Owner.
func TestOwner(t *testing.T) {
	for p, want := range map[uint32]int{
		0: 0, 9: 0, 10: 0, 19: 0, 20: 1, 21: 1, 1<<31 - 1: 1, 1 << 31: 0, 1<<32 - 1: 0,
	} {
		if got := Owner(three(), p); got != want {
			t.Errorf("Owner of %d is %d, not %d", p, got, want)
		}
	}
	four := []api.Arc{{From: 1, Shard: 4}, {From: 2, Shard: 15}, {From: 1<<32 - 2, Shard: 7}, {From: 1<<32 - 1, Shard: 9}}
	for p, want := range map[uint32]int{
		0: 9, 1: 4, 2: 15, 3: 15, 1 << 30: 15, 1 << 31: 15, 3 << 30: 15, 1<<32 - 3: 15, 1<<32 - 2: 7, 1<<32 - 1: 9,
	} {
		if got := Owner(four, p); got != want {
			t.Errorf("Owner of %d is %d, not %d", p, got, want)
		}
	}
	for _, from := range []uint32{0, 1, 77, 1 << 31, 1<<32 - 1} {
		for _, p := range []uint32{0, 1, 76, 77, 78, 1 << 31, 1<<32 - 1} {
			if got := Owner([]api.Arc{{From: from, Shard: 11}}, p); got != 11 {
				t.Errorf("Owner of %d on one arc from %d is %d", p, from, got)
			}
		}
	}
}

// nearby are points at the ends of l's arcs, and at the ends of the ring.
func nearby(l []api.Arc) []uint32 {
	points := []uint32{0, 1, 1<<31 - 1, 1 << 31, 1<<32 - 1}
	for _, a := range l {
		points = append(points, a.From-1, a.From, a.From+1)
	}
	return points
}

// behind is the arc whose From is the least way ahead of p: Owner's, said the other way about.
func behind(l []api.Arc, p uint32) int {
	k := 0
	for i, a := range l {
		if point.Way(a.From, p) < point.Way(l[k].From, p) {
			k = i
		}
	}
	return k
}

// Promise 9.2, Owner: at the ends of all arcs of all lists.
func TestOwnerAtTheEnds(t *testing.T) {
	for i, l := range good() {
		for _, p := range nearby(l) {
			if got, want := Owner(l, p), l[behind(l, p)].Shard; got != want {
				t.Errorf("good %d: Owner of %d is %d, not %d", i, p, got, want)
			}
		}
	}
}

// Promise 9.2, Width.
func TestWidth(t *testing.T) {
	for _, c := range []struct {
		l    []api.Arc
		want []uint64
	}{
		{[]api.Arc{{From: 0}}, []uint64{1 << 32}},
		{[]api.Arc{{From: 77, Shard: 3}}, []uint64{1 << 32}},
		{[]api.Arc{{From: 1<<32 - 1, Shard: 3}}, []uint64{1 << 32}},
		{three(), []uint64{10, 1<<31 - 20, 1<<31 + 10}},
		{[]api.Arc{{From: 0}, {From: 1}}, []uint64{1, 1<<32 - 1}},
		{[]api.Arc{{From: 0}, {From: 1<<32 - 1}}, []uint64{1<<32 - 1, 1}},
		{[]api.Arc{{From: 1}, {From: 1<<32 - 1}}, []uint64{1<<32 - 2, 2}},
		{[]api.Arc{{From: 0}, {From: 1 << 31}}, []uint64{1 << 31, 1 << 31}},
		{[]api.Arc{{From: 5, Shard: 1}, {From: 6, Shard: 1}, {From: 8, Shard: 1}}, []uint64{1, 2, 1<<32 - 3}},
	} {
		for k, want := range c.want {
			if got := Width(c.l, k); got != want {
				t.Errorf("Width(%v, %d) = %d, not %d", c.l, k, got, want)
			}
		}
		for _, k := range []int{-1, -2, -len(c.l), len(c.l), len(c.l) + 1, math.MaxInt, math.MinInt, 1 << 32} {
			if got := Width(c.l, k); got != 0 {
				t.Errorf("Width(%v, %d) = %d", c.l, k, got)
			}
		}
	}
}

// Promise 9.2, Share.
func TestShare(t *testing.T) {
	for _, c := range []struct {
		l     []api.Arc
		shard int
		want  uint64
	}{
		{[]api.Arc{{From: 77, Shard: 3}}, 3, 1 << 32},
		{[]api.Arc{{From: 77, Shard: 3}}, 2, 0},
		{[]api.Arc{{From: 77, Shard: 3}}, 0, 0},
		{three(), 0, 1<<31 + 20},
		{three(), 1, 1<<31 - 20},
		{three(), 2, 0},
		{three(), -1, 0},
		{three(), 16, 0},
		{three(), math.MaxInt, 0},
		{three(), math.MinInt, 0},
		{of(1024, 15), 15, 1 << 32},
		{of(1024, 15), 14, 0},
		{apart(1024, 1), 1, 511 + 1<<32 - 1023},
		{apart(1024, 1), 0, 512},
	} {
		if got := Share(c.l, c.shard); got != c.want {
			t.Errorf("Share of %d arcs, shard %d: %d, not %d", len(c.l), c.shard, got, c.want)
		}
	}
}

// whole tells whether all arcs' widths, and all shards' shares, are once the ring.
func whole(l []api.Arc) bool {
	var widths, shares uint64
	for k := range l {
		widths += Width(l, k)
	}
	for shard := range 16 {
		shares += Share(l, shard)
	}
	return widths == 1<<32 && shares == 1<<32
}

// Promise 9.2, T2: each point has one owner, so all that they own is the ring, once.
func TestWhole(t *testing.T) {
	for i, l := range good() {
		if !whole(l) {
			t.Error("good", i)
		}
	}
	for _, weights := range inTurn() {
		if l, _ := Build(weights); !whole(l) {
			t.Error(weights)
		}
	}
}

// Promise 9.2, Halve.
func TestHalve(t *testing.T) {
	for _, c := range []struct {
		l            []api.Arc
		shard, other int
		want         []api.Arc
	}{
		{three(), 0, 5, []api.Arc{{From: 10}, {From: 15, Shard: 5}, {From: 20, Shard: 1}, {From: 1 << 31}, {From: 1<<31 + 1<<30 + 5, Shard: 5}}},
		{three(), 1, 0, []api.Arc{{From: 10}, {From: 20, Shard: 1}, {From: 1<<30 + 10}, {From: 1 << 31}}},
		{three(), 2, 5, three()},
		{three(), -1, 5, three()},
		{three(), 16, 5, three()},
		{three(), math.MinInt, 5, three()},
		{three(), 1, 1, []api.Arc{{From: 10}, {From: 20, Shard: 1}, {From: 1<<30 + 10, Shard: 1}, {From: 1 << 31}}},
		{three(), 1, 15, []api.Arc{{From: 10}, {From: 20, Shard: 1}, {From: 1<<30 + 10, Shard: 15}, {From: 1 << 31}}},

		// One, two, three, four and five wide: the first half is rounded down.
		{
			[]api.Arc{{From: 0, Shard: 1}, {From: 1, Shard: 1}, {From: 3, Shard: 1}, {From: 6, Shard: 1}, {From: 10, Shard: 1}, {From: 15}}, 1, 2,
			[]api.Arc{{From: 0, Shard: 1}, {From: 1, Shard: 1}, {From: 2, Shard: 2}, {From: 3, Shard: 1}, {From: 4, Shard: 2}, {From: 6, Shard: 1}, {From: 8, Shard: 2}, {From: 10, Shard: 1}, {From: 12, Shard: 2}, {From: 15}},
		},

		// The last arc is one, two, three wide, and goes round.
		{[]api.Arc{{From: 0}, {From: 1<<32 - 1, Shard: 1}}, 1, 2, []api.Arc{{From: 0}, {From: 1<<32 - 1, Shard: 1}}},
		{[]api.Arc{{From: 1}, {From: 1<<32 - 1, Shard: 1}}, 1, 2, []api.Arc{{From: 0, Shard: 2}, {From: 1}, {From: 1<<32 - 1, Shard: 1}}},
		{[]api.Arc{{From: 2}, {From: 1<<32 - 1, Shard: 1}}, 1, 2, []api.Arc{{From: 0, Shard: 2}, {From: 2}, {From: 1<<32 - 1, Shard: 1}}},
		{[]api.Arc{{From: 1}, {From: 1<<32 - 2, Shard: 1}}, 1, 2, []api.Arc{{From: 1}, {From: 1<<32 - 2, Shard: 1}, {From: 1<<32 - 1, Shard: 2}}},
		{[]api.Arc{{From: 9}, {From: 1<<32 - 1, Shard: 1}}, 1, 2, []api.Arc{{From: 4, Shard: 2}, {From: 9}, {From: 1<<32 - 1, Shard: 1}}},
		{
			[]api.Arc{{From: 9, Shard: 1}, {From: 13}, {From: 1<<32 - 1, Shard: 1}}, 1, 2,
			[]api.Arc{{From: 4, Shard: 2}, {From: 9, Shard: 1}, {From: 11, Shard: 2}, {From: 13}, {From: 1<<32 - 1, Shard: 1}},
		},

		// One arc, which is all.
		{[]api.Arc{{From: 0, Shard: 2}}, 2, 0, []api.Arc{{From: 0, Shard: 2}, {From: 1 << 31}}},
		{[]api.Arc{{From: 1<<31 - 1, Shard: 2}}, 2, 0, []api.Arc{{From: 1<<31 - 1, Shard: 2}, {From: 1<<32 - 1}}},
		{[]api.Arc{{From: 1 << 31, Shard: 2}}, 2, 0, []api.Arc{{From: 0}, {From: 1 << 31, Shard: 2}}},
		{[]api.Arc{{From: 3 << 30, Shard: 2}}, 2, 0, []api.Arc{{From: 1 << 30}, {From: 3 << 30, Shard: 2}}},
		{[]api.Arc{{From: 1<<32 - 1, Shard: 2}}, 2, 0, []api.Arc{{From: 1<<31 - 1}, {From: 1<<32 - 1, Shard: 2}}},
		{[]api.Arc{{From: 1<<32 - 1, Shard: 2}}, 0, 2, []api.Arc{{From: 1<<32 - 1, Shard: 2}}},
	} {
		got := Halve(c.l, c.shard, c.other)
		if !slices.Equal(got, c.want) {
			t.Errorf("Halve(%v, %d, %d) = %v, not %v", c.l, c.shard, c.other, got, c.want)
		}
	}
}

// Promise 9.2, Halve: the other shard out of range is nothing, though there were nothing to halve.
func TestHalveToNone(t *testing.T) {
	for _, other := range []int{-1, 16, 17, -16, 256, 1 << 32, math.MaxInt, math.MinInt} {
		for shard := -1; shard < 17; shard++ {
			if got := Halve(three(), shard, other); len(got) != 0 {
				t.Errorf("Halve of shard %d to %d: %v", shard, other, got)
			}
		}
		if got := Halve([]api.Arc{{Shard: 3}}, other, other); len(got) != 0 {
			t.Errorf("Halve of %d to itself: %v", other, got)
		}
	}
	for other := range 16 {
		if len(Halve(three(), 1, other)) != 4 || len(Halve(three(), 3, other)) != 3 {
			t.Error("no halves for", other)
		}
	}
}

// Promise 9.2, Halve: up to 1,024 arcs may come of it.
func TestHalveMany(t *testing.T) {
	one := func(n, k int, gap uint32) []api.Arc { // arc k alone is shard 4's
		l := apart(n, gap)
		l[k].Shard = 4
		return l
	}
	for i, c := range []struct {
		l    []api.Arc
		want int
	}{
		{of(511, 4), 1022},
		{of(512, 4), 1024},
		{of(513, 4), 0},
		{of(1024, 4), 0},
		{of(1024, 3), 1024},
		{one(1023, 0, 100), 1024},
		{one(1023, 1022, 100), 1024},
		{one(1024, 0, 100), 0},
		{one(1024, 500, 100), 0},
		{one(1024, 1023, 100), 0},
		{one(1024, 0, 2), 0},
		{one(1024, 0, 1), 1024},
		{one(1024, 1022, 1), 1024},
		{one(1024, 1023, 1), 0},
	} {
		got := Halve(c.l, 4, 5)
		if len(got) != c.want || c.want > 0 && !May(got) {
			t.Errorf("%d: %d arcs, not %d", i, len(got), c.want)
		}
	}
}

// Promise 9.2, T2: what shard had is shard's in the first half of each arc, and
// other's in the second; all else stays as it was.
func TestHalveKeepsOwners(t *testing.T) {
	for i, l := range good() {
		for shard := range 3 {
			h := Halve(l, shard, 9)
			if len(h) == 0 {
				continue
			}
			if !May(h) || !whole(h) {
				t.Errorf("good %d, shard %d: %d arcs that may not be", i, shard, len(h))
			}
			for _, p := range nearby(h) {
				k := behind(l, p)
				want := l[k].Shard
				if want == shard && Width(l, k) >= 2 && uint64(point.Way(l[k].From, p)) >= Width(l, k)/2 {
					want = 9
				}
				if got := Owner(h, p); got != want {
					t.Errorf("good %d, shard %d: owner of %d is %d, not %d", i, shard, p, got, want)
				}
			}
		}
	}
}

// Promise 9.2, Halve: what it makes is halved again, down to arcs too narrow.
func TestHalveAgain(t *testing.T) {
	l := []api.Arc{{From: 4, Shard: 1}, {From: 1<<32 - 5, Shard: 0}}
	share := uint64(9) // 5 ahead of the ring's end and 4 behind it
	for other := 2; other < 16; other++ {
		h := Halve(l, 0, other)
		kept := share
		if share > 1 {
			kept = share / 2
		}
		if Share(h, 0) != kept || Share(h, other) != share-kept || Share(h, 1) != 1<<32-9 {
			t.Fatalf("shard %d: %v", other, h)
		}
		if share == 1 && !slices.Equal(h, l) {
			t.Fatal("one point was halved", h)
		}
		l, share = h, kept
	}
}

// Promise 9.2, Same: the same arcs in the same order, also of lists that may not be.
func TestSame(t *testing.T) {
	for i, a := range append(good(), bad()...) {
		if !Same(a, slices.Clone(a)) {
			t.Error(i, "is not the same as itself")
		}
		if Same(a, append(slices.Clone(a), api.Arc{From: 1<<32 - 1})) || Same(append(slices.Clone(a), api.Arc{}), a) {
			t.Error(i, "is the same as with an arc more")
		}
		for k := range min(len(a), 5) {
			from, shard := slices.Clone(a), slices.Clone(a)
			from[k].From++
			shard[k].Shard++
			if Same(a, from) || Same(from, a) || Same(a, shard) || Same(shard, a) {
				t.Error(i, "is the same with another arc", k)
			}
		}
	}
	if Same([]api.Arc{{From: 1}, {From: 2}}, []api.Arc{{From: 2}, {From: 1}}) {
		t.Error("order does not count")
	}
	if Same(three(), nil) || Same(nil, three()) || !Same(nil, []api.Arc{}) || !Same([]api.Arc{}, nil) || !Same(nil, nil) {
		t.Error("nothing")
	}
}

// Rules 2 and 3: arguments stay as they are, answers are new each time and the same each time.
func TestAnswersAreOwn(t *testing.T) {
	for i, l := range good() {
		kept := slices.Clone(l)
		for shard := -1; shard < 4; shard++ {
			h := Halve(l, shard, 7)
			again := slices.Clone(h)
			for k := range h {
				h[k] = api.Arc{From: 3, Shard: 12}
			}
			if !slices.Equal(l, kept) {
				t.Fatal("good", i, "was changed, or is shared")
			}
			if !slices.Equal(Halve(l, shard, 7), again) {
				t.Error("good", i, "is halved otherwise the second time")
			}
		}
		May(l)
		Owner(l, 12)
		Width(l, 0)
		Share(l, 0)
		Same(l, l)
		if !slices.Equal(l, kept) {
			t.Error("good", i, "was changed")
		}
	}
	weights := []int{1, 0, 2}
	a, _ := Build(weights)
	want := slices.Clone(a)
	clear(a)
	if b, _ := Build(weights); !slices.Equal(b, want) || !slices.Equal(weights, []int{1, 0, 2}) {
		t.Error("Build's answer is shared")
	}
	room := append(make([]api.Arc, 0, 16), three()...)
	Halve(room, 0, 5)
	if !slices.Equal(room[:16], append(three(), make([]api.Arc, 13)...)) {
		t.Error("Halve wrote behind its list")
	}
}

// Promise 9.3: each key has one place, and of many keys each shard has near its weight's part.
func TestKeysNearTheWeights(t *testing.T) {
	const keys = 50_000
	for _, weights := range [][]int{{1}, {4, 4}, {1, 0, 2}, {4, 1}, {1, 4}, {2, 2, 2}, {1, 2, 3, 4}, {4, 3, 2, 1}, allOf(16, 4)} {
		l, _ := Build(weights)
		sum := 0
		for _, weight := range weights {
			sum += weight
		}
		had := make([]int, len(weights))
		for k := range keys {
			p := point.Of("key" + strconv.Itoa(k))
			owner := Owner(l, p)
			if owner != l[behind(l, p)].Shard {
				t.Fatalf("weights %v: key %d is %d's", weights, k, owner)
			}
			had[owner]++
		}
		for shard, weight := range weights {
			fair := float64(keys) * float64(weight) / float64(sum)
			if n := float64(had[shard]); n < fair/2 || n > fair*2 {
				t.Errorf("weights %v: shard %d has %v keys, where %v were fair", weights, shard, n, fair)
			}
			share := float64(Share(l, shard)) / (1 << 32) * keys
			if math.Abs(share-float64(had[shard])) > keys/50 {
				t.Errorf("weights %v: shard %d has %d keys, by its share %v", weights, shard, had[shard], share)
			}
		}
	}
}
