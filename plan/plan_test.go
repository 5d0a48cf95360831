package plan

import (
	"math"
	"slices"
	"strconv"
	"testing"

	"carrefour/api"
	"carrefour/quad"
	"carrefour/table"
)

const q = 1 << 30 // a quarter of the ring

// quarters is a table of a shard a quarter, by turns on nodes 0 and 1.
func quarters() api.Table {
	return api.Table{
		Epoch: 1,
		Arcs:  []api.Arc{{From: 0, Shard: 0}, {From: q, Shard: 1}, {From: 2 * q, Shard: 2}, {From: 3 * q, Shard: 3}},
		Nodes: []int{0, 1, 0, 1},
	}
}

// mixed is a table of shards of several arcs: 4 has three, in quarters 0 and 1,
// 1 has two, in 1 and 3, 3 has one, in 2. Shards 0 and 2 have none, though 2
// stands on a node.
func mixed() api.Table {
	return api.Table{
		Epoch: 7,
		Arcs: []api.Arc{
			{From: 5, Shard: 4}, {From: q - 1, Shard: 4}, {From: q, Shard: 4}, {From: 2*q - 1, Shard: 1},
			{From: 3*q - 1, Shard: 3}, {From: 3 * q, Shard: 1},
		},
		Nodes: []int{-1, 2, 0, 0, 2},
	}
}

// alone is a table of one arc.
func alone(from uint32) api.Table {
	return api.Table{Epoch: 1, Arcs: []api.Arc{{From: from}}, Nodes: []int{3}}
}

// many is a table of as many arcs as there may be, of all shards by turns.
func many() api.Table {
	t := api.Table{Epoch: 1 << 30}
	for k := range 1024 {
		t.Arcs = append(t.Arcs, api.Arc{From: uint32(k) * 4194301, Shard: k * k % 16})
	}
	for shard := range 16 {
		t.Nodes = append(t.Nodes, shard*5%4)
	}
	return t
}

func built(t *testing.T, weights []int, nodes int) api.Table {
	t.Helper()
	x, code := table.New(weights, nodes)
	if code != api.OK {
		t.Fatal("New", code)
	}
	return x
}

func copyOf(t api.Table) api.Table {
	return api.Table{Epoch: t.Epoch, Arcs: slices.Clone(t.Arcs), Nodes: slices.Clone(t.Nodes)}
}

// bad are tables that may not be.
func bad() []api.Table {
	l := []api.Table{{}}
	add := func(change func(t *api.Table)) {
		t := quarters()
		change(&t)
		l = append(l, t)
	}
	for _, epoch := range []int{0, -1, 1<<30 + 1, math.MinInt, math.MaxInt} {
		add(func(t *api.Table) { t.Epoch = epoch })
	}
	for _, nodes := range [][]int{nil, {0}, {0, 1, 0}, {0, 1, 0, -1}, {0, 4, 0, 1}, {0, -2, 0, 1}, make([]int, 17)} {
		add(func(t *api.Table) { t.Nodes = nodes })
	}
	for _, arcs := range [][]api.Arc{
		nil, {{Shard: -1}}, {{Shard: 4}}, {{Shard: 16}}, {{Shard: math.MaxInt}}, {{From: 2}, {From: 1}}, {{From: 2}, {From: 2, Shard: 1}},
		make([]api.Arc, 1025), make([]api.Arc, 1<<16),
	} {
		add(func(t *api.Table) { t.Arcs = arcs })
	}
	return l
}

// same asks for the signs of noughts, too.
func same(a, b complex128) bool {
	return math.Float64bits(real(a)) == math.Float64bits(real(b)) && math.Float64bits(imag(a)) == math.Float64bits(imag(b))
}

// told is what is answered of a table and its loads.
type told struct {
	lean      complex128
	hot, cold int
}

func tell(t api.Table, loads []int, nodes int) told {
	return told{Lean(t, loads), Hot(t, loads), Cold(t, loads, nodes)}
}

func (a told) same(b told) bool {
	return same(a.lean, b.lean) && a.hot == b.hot && a.cold == b.cold
}

// Promise 17.1, of a shard a quarter.
func TestQuarters(t *testing.T) {
	for _, c := range []struct {
		loads []int
		want  told
	}{
		{nil, told{0, 0, 0}},
		{[]int{}, told{0, 0, 0}},
		{[]int{0, 0, 0, 0}, told{0, 0, 0}},
		{[]int{7}, told{7, 0, 1}},
		{[]int{0, 7}, told{7i, 1, 0}},
		{[]int{0, 0, 7}, told{-7, 2, 1}},
		{[]int{0, 0, 0, 7}, told{-7i, 3, 0}},
		{[]int{3, 3, 3, 3}, told{0, 0, 0}},
		{[]int{1, 5, 1, 5}, told{0, 1, 0}},       // it leans nowhere: of all shards
		{[]int{5, 1, 6, 2}, told{-1 - 1i, 2, 1}}, // between two: the real part's
		{[]int{6, 2, 5, 1}, told{1 + 1i, 0, 1}},
		{[]int{6, 1, 5, 2}, told{1 - 1i, 0, 1}},
		{[]int{5, 2, 6, 1}, told{-1 + 1i, 2, 1}},
		{[]int{2, 9, 1, 7}, told{1 + 2i, 1, 0}},
		{[]int{1, 9, 2, 7}, told{-1 + 2i, 1, 0}},
		{[]int{2, 7, 1, 9}, told{1 - 2i, 3, 0}},
		{[]int{1, 7, 2, 9}, told{-1 - 2i, 3, 0}},
		{[]int{9, 2, 7, 1}, told{2 + 1i, 0, 1}},
		{[]int{9, 1, 7, 2}, told{2 - 1i, 0, 1}},
		{[]int{7, 2, 9, 1}, told{-2 + 1i, 2, 1}},
		{[]int{7, 1, 9, 2}, told{-2 - 1i, 2, 1}},
		{[]int{3, 100, 1, 101}, told{2 - 1i, 0, 0}}, // what is greater elsewhere is not hot
		{[]int{100, 3, 101, 1}, told{-1 + 2i, 1, 1}},
		{[]int{1, 2, 3, 4, 1000, 1000}, told{-2 - 2i, 2, 0}}, // there are four shards
	} {
		if got := tell(quarters(), c.loads, 2); !got.same(c.want) {
			t.Errorf("%v: %v, not %v", c.loads, got, c.want)
		}
	}
}

// Promise 17.1: loads that are out of range count 0, those at its ends in full.
func TestLoadsOutOfRange(t *testing.T) {
	for _, c := range []struct {
		load, counts int
	}{
		{0, 0}, {1, 1}, {1<<30 - 1, 1<<30 - 1}, {1 << 30, 1 << 30},
		{1<<30 + 1, 0}, {1 << 31, 0}, {1 << 32, 0}, {1<<32 + 5, 0}, {1 << 40, 0}, {math.MaxInt, 0},
		{-1, 0}, {-5, 0}, {-1 << 30, 0}, {-1 << 32, 0}, {5 - 1<<32, 0}, {math.MinInt, 0},
	} {
		for shard := range 4 {
			loads := []int{2, 2, 2, 2}
			loads[shard] = c.load
			want := slices.Clone(loads)
			want[shard] = c.counts
			if got, asked := tell(quarters(), loads, 2), words(quarters(), want, 2); !got.same(asked) {
				t.Errorf("%v: %v, not %v", loads, got, asked)
			}
			last := [4]int(loads)
			z, up := Beat(last)
			if y, rises := beatInWords([4]int(want)); z != y || up != rises {
				t.Errorf("Beat(%v) = %v, %v, not %v, %v", last, z, up, y, rises)
			}
		}
	}
}

// Promise 17.1, of shards with several arcs, and with none.
func TestMixed(t *testing.T) {
	for _, c := range []struct {
		loads []int
		nodes int
		want  told
	}{
		{nil, 4, told{0, 1, 0}},                         // the first with arcs
		{[]int{99, 0, 99}, 4, told{0, 1, 0}},            // shards without arcs carry nothing
		{[]int{0, 0, 0, 0, 2}, 4, told{0, 4, 0}},        // 2 on three arcs: rounded down, but not for Hot
		{[]int{0, 0, 0, 0, 3}, 4, told{2 + 1i, 4, 0}},   // one on each
		{[]int{0, 0, 0, 0, 11}, 4, told{6 + 3i, 4, 0}},  // three on each
		{[]int{0, 9, 0, 0, 0}, 4, told{0, 1, 0}},        // four ahead, four behind
		{[]int{0, 40, 0, 0, 11}, 4, told{6 + 3i, 4, 0}}, // 1 carries more, but not in quarter 0
		{[]int{0, 40, 0, 8, 12}, 4, told{4i, 1, 1}},     // in quarter 1 begin both 1 and 4
		{[]int{0, 12, 0, 8, 12}, 4, told{4i, 1, 1}},     // the first of these by its number, not on the ring
		{[]int{0, 11, 0, 8, 12}, 4, told{4i, 4, 1}},     // all of a shard's load, not an arc's
		{[]int{0, 40, 0, 50, 12}, 4, told{-42 + 4i, 3, 1}},
		{[]int{0, 40, 99, 50, 12}, 3, told{-42 + 4i, 3, 1}}, // 2 stands on node 0, without arcs
		{[]int{0, 40, 99, 51, 12}, 1, told{-43 + 4i, 3, 0}}, // of node 0 alone
		{[]int{0, 20, 99, 32, 12}, 3, told{-24 + 4i, 3, 1}},
	} {
		if got := tell(mixed(), c.loads, c.nodes); !got.same(c.want) {
			t.Errorf("%v, %d: %v, not %v", c.loads, c.nodes, got, c.want)
		}
	}
}

// Promise 17.1, of one arc: the quarters' first and last points.
func TestAlone(t *testing.T) {
	for _, c := range []struct {
		from uint32
		lean complex128
	}{
		{0, 7}, {q - 1, 7}, {q, 7i}, {2*q - 1, 7i}, {2 * q, -7}, {3*q - 1, -7}, {3 * q, -7i}, {1<<32 - 1, -7i},
	} {
		if got, want := tell(alone(c.from), []int{7, 8}, 4), (told{c.lean, 0, 0}); !got.same(want) {
			t.Errorf("%d: %v, not %v", c.from, got, want)
		}
	}
	if got := Cold(alone(0), []int{7}, 1); got != 0 {
		t.Error("all load on a node that is not asked for:", got)
	}
}

// Promise 17.1, Cold.
func TestCold(t *testing.T) {
	x := api.Table{Epoch: 1, Nodes: []int{3, 2, 1, 0, 0, 3, -1, 2}}
	for shard := range 6 {
		x.Arcs = append(x.Arcs, api.Arc{From: uint32(shard), Shard: shard})
	}
	for _, c := range []struct {
		loads []int
		nodes int
		want  int
	}{
		{[]int{4, 3, 2, 1, 0, 0, 0, 0}, 4, 0},
		{[]int{1, 2, 3, 4, 0, 0, 0, 0}, 4, 3},
		{[]int{1, 2, 3, 4, 0, 0, 0, 0}, 3, 2},
		{[]int{1, 2, 3, 4, 0, 0, 0, 0}, 2, 1},
		{[]int{1, 2, 3, 4, 0, 0, 0, 0}, 1, 0},
		{[]int{1, 2, 3, 4, 0, 9, 0, 0}, 4, 2}, // node 3 has shard 5, too
		{[]int{1, 2, 3, 1, 0, 9, 0, 0}, 4, 0},
		{[]int{1, 2, 3, 1, 2, 9, 0, 0}, 4, 2}, // node 0 has shard 4, too
		{[]int{1, 4, 3, 1, 2, 9, 0, 0}, 4, 0},
		{[]int{1, 4, 3, 1, 3, 9, 0, 0}, 4, 1},
		{[]int{9, 5, 5, 5, 0, 0, 0, 0}, 4, 0}, // the first of these
		{[]int{9, 5, 5, 5, 1, 0, 0, 0}, 4, 1},
		{[]int{5, 5, 5, 5, 1, 1, 0, 0}, 4, 1},
		{[]int{5, 5, 6, 5, 1, 1, 0, 0}, 4, 2},
		{[]int{5, 5, 6, 5, 1, 1, 0, 7}, 4, 2}, // shard 7 has no arcs
		{[]int{1 << 30, 1 << 30, 1 << 30, 1 << 30, 1, 1 << 30, 0, 0}, 4, 1},
	} {
		if got := Cold(x, c.loads, c.nodes); got != c.want {
			t.Errorf("Cold of %v, %d is %d, not %d", c.loads, c.nodes, got, c.want)
		}
	}
	for _, nodes := range []int{0, -1, 5, 6, 1 << 32, 1<<32 + 1, math.MinInt, math.MaxInt} {
		if got := Cold(x, []int{1}, nodes); got != -1 {
			t.Errorf("Cold of %d nodes is %d", nodes, got)
		}
	}
}

// Sixteen shards of the greatest load on one node are more than 32 bits hold.
func TestColdOfMuch(t *testing.T) {
	x := many()
	for shard := range x.Nodes {
		x.Nodes[shard] = 0
	}
	x.Nodes[9] = 1
	if got := Cold(x, slices.Repeat([]int{1 << 30}, 16), 2); got != 1 {
		t.Error(got)
	}
}

// Promise 17.1: of what may not be.
func TestOfWhatMayNotBe(t *testing.T) {
	for i, x := range bad() {
		if table.May(x) {
			t.Error(i, "may be")
		}
		for _, loads := range [][]int{nil, {1}, {1, 2, 3, 4}, {4, 3, 2, 1}} {
			if got, want := tell(x, loads, 2), (told{0, -1, -1}); !got.same(want) {
				t.Error(i, loads, got)
			}
		}
	}
}

// words is chapter 17 as it says it: each part is asked of all arcs anew.
func words(t api.Table, loads []int, nodes int) told {
	load := func(shard int) int64 {
		if shard >= len(loads) || loads[shard] < 0 || loads[shard] > 1<<30 {
			return 0
		}
		return int64(loads[shard])
	}
	arcsOf := func(shard int) (n int64, in map[int]bool) {
		in = map[int]bool{}
		for _, a := range t.Arcs {
			if a.Shard == shard {
				n++
				in[int(a.From/q)] = true
			}
		}
		return n, in
	}
	var side [4]int64
	for _, a := range t.Arcs {
		n, _ := arcsOf(a.Shard)
		side[a.From/q] += load(a.Shard) / n
	}
	re, im := side[0]-side[2], side[1]-side[3]
	var sums [4]int64
	var all, there []int
	for shard, node := range t.Nodes {
		n, in := arcsOf(shard)
		if n == 0 {
			continue
		}
		sums[node] += load(shard)
		all = append(all, shard)
		if in[toward(re, im)] {
			there = append(there, shard)
		}
	}
	if re == 0 && im == 0 {
		there = all
	}
	hot := slices.MaxFunc(there, func(a, b int) int { return int(load(a) - load(b)) })
	cold := slices.Index(sums[:nodes], slices.Min(sums[:nodes]))
	return told{complex(float64(re), float64(im)), hot, cold}
}

func toward(re, im int64) int {
	size := func(x int64) int64 { return max(x, -x) }
	if size(re) >= size(im) {
		if re > 0 {
			return 0
		}
		return 2
	}
	if im > 0 {
		return 1
	}
	return 3
}

// each calls f with all lists of n numbers from l.
func each(n int, l []int, f func(x []int)) {
	x := make([]int, n)
	var from func(k int)
	from = func(k int) {
		if k == n {
			f(x)
			return
		}
		for _, v := range l {
			x[k] = v
			from(k + 1)
		}
	}
	from(0)
}

// Promise 17.1: all small loads of several tables are held against the chapter's words.
func TestAgainstWords(t *testing.T) {
	for _, c := range []struct {
		x     api.Table
		loads []int
	}{
		{quarters(), []int{-1, 0, 1, 2, 3, 5, 1 << 30, 1<<30 + 1}},
		{mixed(), []int{-2, 0, 1, 2, 3, 7, 12, 1 << 30}},
		{built(t, []int{1, 2, 0, 4}, 3), []int{0, 1, 8, 15, 16, 33, 100, 1 << 30}},
		{built(t, []int{1, 1}, 1), []int{0, 7, 8, 9, 100, 1<<30 + 1}},
	} {
		each(len(c.x.Nodes), c.loads, func(loads []int) {
			for nodes := 1; nodes <= 4; nodes++ {
				if got, want := tell(c.x, loads, nodes), words(c.x, loads, nodes); !got.same(want) {
					t.Fatalf("%v, %v, %d: %v, not %v", c.x, loads, nodes, got, want)
				}
			}
		})
	}
}

func TestManyAgainstWords(t *testing.T) {
	x := many()
	h := uint32(1)
	for round := range 30 {
		var loads []int
		for range 17 - round%4 {
			h = h*1664525 + 1013904223
			loads = append(loads, int(h>>(1+round%20))-3)
		}
		if got, want := tell(x, loads, 4), words(x, loads, 4); !got.same(want) {
			t.Errorf("%v: %v, not %v", loads, got, want)
		}
	}
}

// beatInWords is Beat with each sum written out; loads are in range.
func beatInWords(x [4]int) (complex128, bool) {
	a, b, c, d := float64(x[0]), float64(x[1]), float64(x[2]), float64(x[3])
	beats := []complex128{complex(a-c, d-b), complex(a-b+c-d, 0), complex(a-c, b-d)}
	best := beats[0]
	for _, z := range beats[1:] {
		if quad.Norm(z) > quad.Norm(best) {
			best = z
		}
	}
	return best, x[3] > x[2] && best != 0
}

// Promise 17.2.
func TestBeat(t *testing.T) {
	for _, c := range []struct {
		last [4]int
		want complex128
		up   bool
	}{
		{[4]int{}, 0, false},
		{[4]int{6, 6, 6, 6}, 0, false},
		{[4]int{1, 0, 0, 0}, 1, false}, // all three are alike: the first of these
		{[4]int{0, 1, 0, 0}, -1i, false},
		{[4]int{0, 0, 1, 0}, -1, false},
		{[4]int{0, 0, 0, 1}, 1i, true},
		{[4]int{1, 2, 3, 4}, -2 + 2i, true},
		{[4]int{4, 3, 2, 1}, 2 - 2i, false},
		{[4]int{0, 9, 0, 9}, -18, true}, // every other one
		{[4]int{9, 0, 9, 0}, 18, false},
		{[4]int{3, 0, 3, 1}, 5, false},
		{[4]int{0, 3, 1, 3}, -5, true},
		{[4]int{9, 1, 1, 2}, 8 + 1i, true}, // what was there longer ago counts as well
		{[4]int{1, 2, 9, 9}, -8 + 7i, false},
		{[4]int{1, 2, 9, 8}, -8 + 6i, false},
		{[4]int{0, 0, 1 << 30, 1 << 30}, complex(-1<<30, 1<<30), false},
		{[4]int{0, 1 << 30, 0, 1 << 30}, -1 << 31, true},
		{[4]int{0, 0, -1, 3}, 3i, true},
		{[4]int{0, 0, 1<<30 + 1, 3}, 3i, true}, // 3 is greater than what counts
		{[4]int{0, 0, 3, 1<<30 + 1}, -3, false},
		{[4]int{0, 0, math.MinInt, -1}, 0, false}, // the last one is greater, but neither counts
		{[4]int{-1, -2, math.MaxInt, math.MinInt}, 0, false},
		{[4]int{5, 5, -5, 5}, 5, true},
		{[4]int{1 << 32, 1 << 31, 7, 1<<32 + 9}, -7, false},
	} {
		if z, up := Beat(c.last); !same(z, c.want) || up != c.up {
			t.Errorf("Beat(%v) = %v, %v, not %v, %v", c.last, z, up, c.want, c.up)
		}
	}
}

// Promise 17.2: all small loads, and great ones, are held against sums written out.
func TestBeatAgainstSums(t *testing.T) {
	for _, l := range [][]int{{0, 1, 2, 3, 4, 5, 6}, {0, 1, 1000, 1<<29 + 1, 1<<30 - 1, 1 << 30}} {
		each(4, l, func(x []int) {
			z, up := Beat([4]int(x))
			if y, rises := beatInWords([4]int(x)); !same(z, y) || up != rises {
				t.Fatalf("Beat(%v) = %v, %v, not %v, %v", x, z, up, y, rises)
			}
		})
	}
}

// What is handed in stays as it is, and the same arguments give the same answers.
func TestAgain(t *testing.T) {
	loads := []int{-7, 12, 1 << 40, 5, 3, 8}
	for _, x := range []api.Table{quarters(), mixed(), alone(9), many()} {
		kept, keptLoads := copyOf(x), slices.Clone(loads)
		first := tell(x, loads, 3)
		if !first.same(tell(x, loads, 3)) || !first.same(tell(kept, append(loads[:6:6], make([]int, 100)...), 3)) {
			t.Error(x.Epoch, "answers otherwise")
		}
		if !table.Same(x, kept) || !slices.Equal(loads, keptLoads) {
			t.Error(x.Epoch, "is changed")
		}
	}
}

// load is what comes under the keys of one time: much under those of one quarter.
type load struct {
	key string
	n   int
}

// leaning are loads of which most are in that quarter.
func leaning(dir int) []load {
	var l []load
	x := quarters()
	for k := range 2000 {
		one := load{"key" + strconv.Itoa(k), 1}
		if shard, _ := table.Find(x, one.key); shard == dir {
			one.n = 20
		}
		l = append(l, one)
	}
	return l
}

// carried is what each shard and each node of x has of l.
func carried(x api.Table, l []load) (shards, nodes []int) {
	shards, nodes = make([]int, len(x.Nodes)), make([]int, api.MaxNodes)
	for _, one := range l {
		shard, node := table.Find(x, one.key)
		shards[shard] += one.n
		nodes[node] += one.n
	}
	return shards, nodes
}

// relieve splits the hot shard of x, and moves the new one to the cold node.
func relieve(t *testing.T, x api.Table, l []load) api.Table {
	t.Helper()
	shards, _ := carried(x, l)
	y, other, code := table.Split(x, Hot(x, shards))
	if code != api.OK || y.Epoch != x.Epoch+1 || !table.May(y) {
		t.Fatal("Split", code, y)
	}
	shards, _ = carried(y, l)
	cold := Cold(y, shards, api.MaxNodes)
	if y.Nodes[other] == cold {
		return y
	}
	z, code := table.Move(y, other, cold)
	if code != api.OK || z.Epoch != y.Epoch+1 || !table.May(z) {
		t.Fatal("Move", code, z)
	}
	return z
}

// Promise 17.3, and T2: the planner leans against the load. The hot shard begins
// where the load is; as it is split, and its half moved to the cold node, the
// most that a node carries does not grow and falls by half, while epochs rise
// and each key has one place.
func TestLeansAgainstTheLoad(t *testing.T) {
	for dir := range 4 {
		l := leaning(dir)
		x := quarters()
		shards, nodes := carried(x, l)
		if hot := Hot(x, shards); hot != dir || quad.Norm(Lean(x, shards)) == 0 {
			t.Errorf("quarter %d: %d is hot", dir, hot)
		}
		most := slices.Max(nodes)
		for range 3 { // one for each node that begins with less
			y := relieve(t, x, l)
			_, after := carried(y, l)
			if y.Epoch <= x.Epoch || slices.Max(after) > slices.Max(nodes) {
				t.Errorf("quarter %d: %v of nodes becomes %v", dir, nodes, after)
			}
			x, nodes = y, after
		}
		if slices.Max(nodes) > most/2 {
			t.Errorf("quarter %d: %d at first, %v at last", dir, most, nodes)
		}
	}
}
