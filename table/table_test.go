package table

import (
	"math"
	"slices"
	"strconv"
	"testing"

	"carrefour/api"
	"carrefour/point"
	"carrefour/ring"
)

// three is a table of three arcs, of shards 0, 1 and 3; the last one goes round.
// Shards 2 and 4 have none: one is on no node, the other on node 1 all the same.
func three() api.Table {
	return api.Table{
		Epoch: 6,
		Arcs:  []api.Arc{{From: 10, Shard: 3}, {From: 20, Shard: 1}, {From: 1 << 31, Shard: 0}},
		Nodes: []int{3, 0, -1, 2, 1},
	}
}

// alone is a table of one arc.
func alone() api.Table {
	return api.Table{Epoch: 1, Arcs: []api.Arc{{From: 77}}, Nodes: []int{0}}
}

// many is a table of n arcs, gap points apart from 0 on, of shards 0 and 1 by turns.
func many(n int, gap uint32) api.Table {
	t := api.Table{Epoch: 9, Nodes: []int{2, 3}}
	for i := range n {
		t.Arcs = append(t.Arcs, api.Arc{From: uint32(i) * gap, Shard: i % 2})
	}
	return t
}

// sixteen is a table of as many shards as there may be, with an arc each.
func sixteen() api.Table {
	t := api.Table{Epoch: 40}
	for shard := range 16 {
		t.Arcs = append(t.Arcs, api.Arc{From: uint32(shard) << 28, Shard: shard})
		t.Nodes = append(t.Nodes, shard%4)
	}
	return t
}

// narrow is a table whose shard 0 has three arcs, each one point wide.
func narrow() api.Table {
	return api.Table{
		Epoch: 3,
		Arcs:  []api.Arc{{From: 0}, {From: 1, Shard: 1}, {From: 5}, {From: 6, Shard: 1}, {From: 1<<32 - 1}},
		Nodes: []int{1, 2},
	}
}

// changed is a copy of t that change was done to.
func changed(t api.Table, change func(t *api.Table)) api.Table {
	t = copyOf(t)
	change(&t)
	return t
}

func copyOf(t api.Table) api.Table {
	return api.Table{Epoch: t.Epoch, Arcs: slices.Clone(t.Arcs), Nodes: slices.Clone(t.Nodes)}
}

func equal(a, b api.Table) bool {
	return a.Epoch == b.Epoch && slices.Equal(a.Arcs, b.Arcs) && slices.Equal(a.Nodes, b.Nodes)
}

func atEpoch(epoch int) func(t *api.Table) {
	return func(t *api.Table) { t.Epoch = epoch }
}

// good are tables that may be.
func good() []api.Table {
	built, _ := New([]int{1, 0, 4, 2}, 3)
	return []api.Table{
		alone(),
		three(),
		narrow(),
		sixteen(),
		many(2, 1<<31),
		many(1023, 100),
		many(1024, 100),
		many(1024, 1),
		built,
		changed(alone(), atEpoch(1<<30)),
		changed(three(), atEpoch(1<<30-1)),
		changed(three(), atEpoch(256)),
		changed(three(), func(t *api.Table) { t.Nodes[1], t.Nodes[4] = 3, 3 }),
		changed(three(), func(t *api.Table) { t.Nodes = t.Nodes[:4] }),
		changed(alone(), func(t *api.Table) { t.Nodes = append(t.Nodes, -1, -1) }),
		{Epoch: 8, Arcs: []api.Arc{{From: 1<<32 - 1, Shard: 15}}, Nodes: append(slices.Repeat([]int{-1}, 15), 3)},
		{Epoch: 8, Arcs: []api.Arc{{From: 0, Shard: 1}, {From: 1, Shard: 0}, {From: 1<<32 - 1, Shard: 1}}, Nodes: []int{3, 3}},
	}
}

// bad are tables that may not be, for one reason each.
func bad() []api.Table {
	var l []api.Table
	add := func(t api.Table, change func(t *api.Table)) { l = append(l, changed(t, change)) }
	for _, epoch := range []int{0, -1, 1<<30 + 1, 1 << 31, 1 << 32, 1<<32 + 1, math.MaxInt, math.MinInt} {
		add(three(), atEpoch(epoch))
		add(alone(), atEpoch(epoch))
	}
	for _, arcs := range [][]api.Arc{
		nil, {}, many(1025, 9).Arcs, many(1<<16, 9).Arcs,
		{{From: 5}, {From: 5, Shard: 1}}, {{From: 6}, {From: 5}}, {{Shard: -1}}, {{Shard: 16}}, {{Shard: 1 << 32}},
		{{Shard: math.MaxInt}}, {{Shard: math.MinInt}},
		{{Shard: 5}}, {{Shard: 15}}, {{Shard: 2}}, {{From: 1}, {From: 2, Shard: 5}}, {{From: 1, Shard: 2}, {From: 2}}, {{From: 1}, {From: 2, Shard: 1}, {From: 3, Shard: 2}},
	} {
		add(three(), func(t *api.Table) { t.Arcs = arcs })
	}
	for _, nodes := range [][]int{
		nil, {}, make([]int, 17), make([]int, 1<<16), {0}, {0, 1, 2}, {0, 1, 2, -1}, {0, -1, 2, 3}, {-1, -1, -1, -1},
		{4, 0, 0, 0}, {0, 0, 0, 4}, {0, 0, 4, 0}, {0, 0, -2, 0}, {0, 0, 0, 0, -2}, {0, 0, 0, 0, 4}, {0, 0, 0, 0, math.MaxInt},
		{0, 0, 0, 0, math.MinInt}, {1 << 32, 0, 0, 0}, {0, 0, 0, 256},
	} {
		add(three(), func(t *api.Table) { t.Nodes = nodes })
	}
	return append(l, api.Table{}, api.Table{Epoch: 1}, api.Table{Epoch: 1, Nodes: []int{0}}, api.Table{Epoch: 1, Arcs: []api.Arc{{}}})
}

// Promise 10.1, May.
func TestMay(t *testing.T) {
	for i, x := range good() {
		if !May(x) {
			t.Error("good", i, "may not be")
		}
	}
	for i, x := range bad() {
		if May(x) {
			t.Error("bad", i, "may be")
		}
	}
}

// Promise 10.1, May: each node from -1 to 3, and -1 only of shards without arcs.
func TestMayNodes(t *testing.T) {
	for shard := range 5 {
		hasArcs := shard != 2 && shard != 4
		for node := -5; node < 9; node++ {
			x := three()
			x.Nodes[shard] = node
			want := node >= 0 && node < 4 || node == -1 && !hasArcs
			if May(x) != want {
				t.Errorf("shard %d on node %d: %v", shard, node, !want)
			}
		}
	}
	for n := range 40 {
		x := alone()
		x.Nodes = make([]int, n)
		if May(x) != (n >= 1 && n <= 16) {
			t.Error("a table of", n, "shards")
		}
	}
}

// lists are all lists of up to four weights from 0 to 4, with one above 0.
func lists() [][]int {
	l := [][]int{nil}
	var whole [][]int
	for i := 0; i < len(l); i++ {
		if len(l[i]) > 0 && slices.Max(l[i]) > 0 {
			whole = append(whole, l[i])
		}
		if len(l[i]) < 4 {
			for weight := range 5 {
				l = append(l, append(slices.Clone(l[i]), weight))
			}
		}
	}
	return whole
}

// Promise 10.1, New: on shard modulo nodes, or -1 of those without arcs.
func TestNew(t *testing.T) {
	for _, weights := range append(lists(), slices.Repeat([]int{4}, 16), slices.Repeat([]int{0, 1}, 8), append(make([]int, 15), 1)) {
		for nodes := 1; nodes <= 4; nodes++ {
			x, code := New(weights, nodes)
			arcs, _ := ring.Build(weights)
			want := api.Table{Epoch: 1, Arcs: arcs}
			for shard, weight := range weights {
				node := shard
				for node >= nodes {
					node -= nodes
				}
				if weight == 0 {
					node = -1
				}
				want.Nodes = append(want.Nodes, node)
			}
			if code != api.OK || !equal(x, want) || !May(x) {
				t.Fatalf("New(%v, %d): epoch %d, %d arcs, nodes %v, %d", weights, nodes, x.Epoch, len(x.Arcs), x.Nodes, code)
			}
		}
	}
}

// Promise 10.1, New: ErrArg of nodes out of range, and of weights that Build refuses.
func TestNewErrArg(t *testing.T) {
	refused := func(weights []int, nodes int) {
		if x, code := New(weights, nodes); code != api.ErrArg || !equal(x, api.Table{}) {
			t.Errorf("New(%v, %d): %v, %d", weights, nodes, x, code)
		}
	}
	for _, nodes := range []int{0, -1, -4, 5, 6, 16, 256, 1 << 32, 1<<32 + 1, math.MaxInt, math.MinInt} {
		refused([]int{1}, nodes)
		refused([]int{1, 0, 2}, nodes)
		refused(nil, nodes)
		refused([]int{5}, nodes)
	}
	for _, weights := range [][]int{nil, {}, {0}, {0, 0}, {5}, {-1}, {1, 5}, {-1, 1}, make([]int, 16), slices.Repeat([]int{1}, 17), {math.MaxInt}, {math.MinInt}} {
		for nodes := 1; nodes <= 4; nodes++ {
			refused(weights, nodes)
		}
	}
}

// The chapter's example: one weight, one node.
func TestNewOfOne(t *testing.T) {
	x, code := New([]int{1}, 1)
	if code != api.OK || !slices.Equal(x.Nodes, []int{0}) || len(x.Arcs) != api.Points || ring.Share(x.Arcs, 0) != 1<<32 {
		t.Error(x, code)
	}
	for i := range 1000 {
		if shard, node := Find(x, "k"+strconv.Itoa(i)); shard != 0 || node != 0 {
			t.Fatal(i, shard, node)
		}
	}
}

// owner is whose p is: the shard of the arc whose From is the least way ahead of it.
func owner(arcs []api.Arc, p uint32) int {
	k := 0
	for i, a := range arcs {
		if point.Way(a.From, p) < point.Way(arcs[k].From, p) {
			k = i
		}
	}
	return arcs[k].Shard
}

func keys() []string {
	l := []string{"", "/", "\x00", "\xff\xfe", "key", string(make([]byte, 3000))}
	for i := range 300 {
		l = append(l, "key "+strconv.Itoa(i))
	}
	return l
}

// Promise 10.1, Find: whose arc the key's place is in, and that shard's node.
func TestFind(t *testing.T) {
	for i, x := range good() {
		for _, key := range keys() {
			want := owner(x.Arcs, point.Of(key))
			if shard, node := Find(x, key); shard != want || node != x.Nodes[want] {
				t.Fatalf("good %d: %q is %d's on %d, not %d's on %d", i, key, shard, node, want, x.Nodes[want])
			}
		}
	}
	// The place of "key" is 857921051: the arc that begins just there has it.
	for from, want := range map[uint32]int{857921050: 1, 857921051: 1, 857921052: 0} {
		x := api.Table{Epoch: 1, Arcs: []api.Arc{{From: 3}, {From: from, Shard: 1}, {From: 1 << 31}}, Nodes: []int{2, 3}}
		if shard, node := Find(x, "key"); shard != want || node != want+2 {
			t.Errorf("from %d: %d, %d", from, shard, node)
		}
	}
	for i, x := range bad() {
		for _, key := range keys()[:10] {
			if shard, node := Find(x, key); shard != -1 || node != -1 {
				t.Errorf("bad %d: %q is %d's on %d", i, key, shard, node)
			}
		}
	}
}

// Promise 10.2, Split.
func TestSplit(t *testing.T) {
	for i, c := range []struct {
		t     api.Table
		shard int
		want  api.Table
	}{
		{alone(), 0, api.Table{Epoch: 2, Arcs: []api.Arc{{From: 77}, {From: 1<<31 + 77, Shard: 1}}, Nodes: []int{0, 0}}},
		{
			three(), 0, // goes round 0
			api.Table{Epoch: 7, Arcs: []api.Arc{{From: 10, Shard: 3}, {From: 20, Shard: 1}, {From: 1 << 31}, {From: 3<<30 + 5, Shard: 5}}, Nodes: []int{3, 0, -1, 2, 1, 3}},
		},
		{
			three(), 1,
			api.Table{Epoch: 7, Arcs: []api.Arc{{From: 10, Shard: 3}, {From: 20, Shard: 1}, {From: 1<<30 + 10, Shard: 5}, {From: 1 << 31}}, Nodes: []int{3, 0, -1, 2, 1, 0}},
		},
		{
			three(), 3,
			api.Table{Epoch: 7, Arcs: []api.Arc{{From: 10, Shard: 3}, {From: 15, Shard: 5}, {From: 20, Shard: 1}, {From: 1 << 31}}, Nodes: []int{3, 0, -1, 2, 1, 2}},
		},
		{
			narrow(), 1, // two arcs at once
			api.Table{
				Epoch: 4,
				Arcs:  []api.Arc{{From: 0}, {From: 1, Shard: 1}, {From: 3, Shard: 2}, {From: 5}, {From: 6, Shard: 1}, {From: 1<<31 + 2, Shard: 2}, {From: 1<<32 - 1}},
				Nodes: []int{1, 2, 2},
			},
		},
		{
			// One of shard 0's arcs is wide enough, at two points.
			changed(narrow(), func(t *api.Table) { t.Arcs[3].From = 7 }), 0,
			api.Table{
				Epoch: 4,
				Arcs:  []api.Arc{{From: 0}, {From: 1, Shard: 1}, {From: 5}, {From: 6, Shard: 2}, {From: 7, Shard: 1}, {From: 1<<32 - 1}},
				Nodes: []int{1, 2, 1},
			},
		},
		{
			changed(alone(), atEpoch(1<<30-1)), 0,
			api.Table{Epoch: 1 << 30, Arcs: []api.Arc{{From: 77}, {From: 1<<31 + 77, Shard: 1}}, Nodes: []int{0, 0}},
		},
		{
			// The sixteenth shard is the last one.
			api.Table{Epoch: 8, Arcs: []api.Arc{{From: 4, Shard: 14}}, Nodes: append(slices.Repeat([]int{-1}, 14), 3)}, 14,
			api.Table{Epoch: 9, Arcs: []api.Arc{{From: 4, Shard: 14}, {From: 1<<31 + 4, Shard: 15}}, Nodes: append(slices.Repeat([]int{-1}, 14), 3, 3)},
		},
	} {
		got, other, code := Split(c.t, c.shard)
		if code != api.OK || other != len(c.want.Nodes)-1 || !equal(got, c.want) || !May(got) {
			t.Errorf("%d: %v, %d, %d, not %v", i, got, other, code, c.want)
		}
	}
}

// splitRefused tells whether Split answers x as it is, -1 and want.
func splitRefused(x api.Table, shard, want int) bool {
	got, other, code := Split(x, shard)
	return code == want && other == -1 && equal(got, x)
}

// Promise 10.2, Split: ErrArg, unless May, shard has arcs, and there is an epoch left.
func TestSplitErrArg(t *testing.T) {
	for i, x := range bad() {
		for shard := -1; shard < 17; shard++ {
			if !splitRefused(x, shard, api.ErrArg) {
				t.Error("bad", i, "shard", shard)
			}
		}
	}
	for _, shard := range []int{2, 4, 5, 6, 15, 16, 17, -1, -2, 256, 257, 1 << 32, 1<<32 + 1, math.MaxInt, math.MinInt} {
		if !splitRefused(three(), shard, api.ErrArg) {
			t.Error("shard", shard, "has no arcs")
		}
	}
	for _, shard := range []int{-1, 16, math.MaxInt} {
		if !splitRefused(sixteen(), shard, api.ErrArg) {
			t.Error("shard", shard, "of sixteen")
		}
	}
	for i, x := range []api.Table{alone(), three(), sixteen(), narrow(), many(1024, 100)} {
		if !splitRefused(changed(x, atEpoch(1<<30)), 0, api.ErrArg) {
			t.Error(i, "at the last epoch")
		}
	}
	if !splitRefused(narrow(), 0, api.ErrArg) || !splitRefused(many(1024, 1), 0, api.ErrArg) {
		t.Error("too narrow")
	}
}

// Promise 10.2, Split: ErrFull of sixteen shards, or of too many arcs.
func TestSplitErrFull(t *testing.T) {
	for shard := range 16 {
		if !splitRefused(sixteen(), shard, api.ErrFull) {
			t.Error("shard", shard, "of sixteen")
		}
	}
	padded := changed(alone(), func(t *api.Table) { t.Nodes = append(t.Nodes, slices.Repeat([]int{-1}, 15)...) })
	if !splitRefused(padded, 0, api.ErrFull) {
		t.Error("sixteen shards, of which fifteen have no arcs")
	}
	if !splitRefused(changed(narrow(), func(t *api.Table) { t.Nodes = padded.Nodes; t.Nodes[1] = 0 }), 0, api.ErrFull) {
		t.Error("sixteen shards, and too narrow")
	}
	if !splitRefused(many(1024, 100), 0, api.ErrFull) || !splitRefused(many(1024, 100), 1, api.ErrFull) || !splitRefused(many(683, 2), 0, api.ErrFull) {
		t.Error("too many arcs")
	}
	if !splitRefused(many(1024, 1), 1, api.ErrFull) {
		t.Error("1,025 arcs: only the last one is wide enough")
	}
	for _, n := range []int{682, 681} { // of 682, 341 are halved
		if x, other, code := Split(many(n, 2), 0); code != api.OK || other != 2 || len(x.Arcs) != n+(n+1)/2 {
			t.Error(n, "arcs:", len(x.Arcs), other, code)
		}
	}
	last := changed(many(1023, 1), func(t *api.Table) { t.Arcs[1022].Shard = 1 })
	if x, other, code := Split(last, 1); code != api.OK || other != 2 || len(x.Arcs) != 1024 {
		t.Error("1,024 arcs:", len(x.Arcs), other, code)
	}
}

// Promise 10.2, Split: the new shard is the next number, up to sixteen; each is split again.
func TestSplitAgain(t *testing.T) {
	x := alone()
	for n := 1; n < 16; n++ {
		y, other, code := Split(x, n-1)
		if code != api.OK || other != n || y.Epoch != x.Epoch+1 || len(y.Nodes) != n+1 || y.Nodes[n] != 0 || !May(y) {
			t.Fatal(n, other, code, y)
		}
		if ring.Share(y.Arcs, n) != 1<<(32-n) || ring.Share(y.Arcs, n-1) != 1<<(32-n) {
			t.Fatal(n, ring.Share(y.Arcs, n), ring.Share(y.Arcs, n-1))
		}
		x = y
	}
	if !splitRefused(x, 15, api.ErrFull) {
		t.Error("a seventeenth")
	}
}

// Promise 10.2, Move.
func TestMove(t *testing.T) {
	for i, x := range good() {
		for shard := -2; shard < 19; shard++ {
			hasArcs := slices.ContainsFunc(x.Arcs, func(a api.Arc) bool { return a.Shard == shard })
			for node := -2; node < 7; node++ {
				want, wanted := copyOf(x), api.ErrArg
				if x.Epoch < 1<<30 && hasArcs && node >= 0 && node < 4 && x.Nodes[shard] != node {
					want.Epoch, want.Nodes[shard], wanted = x.Epoch+1, node, api.OK
				}
				got, code := Move(x, shard, node)
				if code != wanted || !equal(got, want) || !May(got) {
					t.Fatalf("good %d: shard %d to %d: epoch %d, nodes %v, %d", i, shard, node, got.Epoch, got.Nodes, code)
				}
			}
		}
	}
}

// Promise 10.2, Move: ErrArg, beside the table as it is.
func TestMoveErrArg(t *testing.T) {
	refused := func(x api.Table, shard, node int) {
		if got, code := Move(x, shard, node); code != api.ErrArg || !equal(got, x) {
			t.Errorf("shard %d to %d: %d, epoch %d, nodes %v", shard, node, code, got.Epoch, got.Nodes)
		}
	}
	for _, x := range bad() {
		for shard := -1; shard < 6; shard++ {
			for node := -1; node < 5; node++ {
				refused(x, shard, node)
			}
		}
	}
	for _, n := range []int{-1, -2, 4, 16, 256, 257, 1 << 32, 1<<32 + 1, math.MaxInt, math.MinInt} {
		refused(three(), 1, n)
	}
	for _, n := range []int{-1, -2, 2, 4, 5, 16, 256, 257, 1 << 32, 1<<32 + 1, math.MaxInt, math.MinInt} {
		refused(three(), n, 1)
	}
	refused(three(), 0, 3) // its own
	refused(changed(three(), atEpoch(1<<30)), 0, 1)
	if x, code := Move(changed(three(), atEpoch(1<<30-1)), 0, 1); code != api.OK || x.Epoch != 1<<30 {
		t.Error("to the last epoch", x.Epoch, code)
	}
}

// Promise 10.3, Same.
func TestSame(t *testing.T) {
	all := append(good(), bad()...)
	for i, x := range all {
		if !Same(x, copyOf(x)) {
			t.Error(i, "is not the same as itself")
		}
		for k, change := range []func(t *api.Table){
			func(t *api.Table) { t.Epoch-- },
			func(t *api.Table) { t.Epoch ^= 1 << 40 },
			func(t *api.Table) { t.Arcs = append(t.Arcs, api.Arc{}) },
			func(t *api.Table) { t.Nodes = append(t.Nodes, -1) },
			func(t *api.Table) { t.Nodes = append(t.Nodes, 0) },
		} {
			if y := changed(x, change); Same(x, y) || Same(y, x) {
				t.Error(i, "is the same, changed by", k)
			}
		}
		for k := range min(len(x.Arcs), 5) {
			from := changed(x, func(t *api.Table) { t.Arcs[k].From++ })
			shard := changed(x, func(t *api.Table) { t.Arcs[k].Shard++ })
			if Same(x, from) || Same(from, x) || Same(x, shard) || Same(shard, x) {
				t.Error(i, "is the same with another arc", k)
			}
		}
		for k := range min(len(x.Nodes), 20) {
			if y := changed(x, func(t *api.Table) { t.Nodes[k]-- }); Same(x, y) || Same(y, x) {
				t.Error(i, "is the same with another node", k)
			}
		}
	}
	if !Same(api.Table{}, api.Table{Arcs: []api.Arc{}, Nodes: []int{}}) || !Same(api.Table{Arcs: []api.Arc{}, Nodes: []int{}}, api.Table{}) {
		t.Error("nil lists are not the same as empty ones")
	}
}

// checkTurn tells what is wrong with y as the table after x, in which shard was
// split into itself and other, or (other -1) was moved.
func checkTurn(x, y api.Table, shard, other int) string {
	if !May(y) {
		return "it may not be"
	}
	if y.Epoch != x.Epoch+1 {
		return "its epoch is " + strconv.Itoa(y.Epoch)
	}
	points := []uint32{0, 1, 1 << 31, 1<<32 - 1}
	for _, a := range y.Arcs {
		points = append(points, a.From-1, a.From, a.From+1)
	}
	for _, p := range points {
		was, is := owner(x.Arcs, p), owner(y.Arcs, p)
		if is != was && (was != shard || is != other) {
			return strconv.Itoa(int(p)) + " went from " + strconv.Itoa(was) + " to " + strconv.Itoa(is)
		}
		if is == other && y.Nodes[is] != x.Nodes[was] || is != shard && is != other && y.Nodes[is] != x.Nodes[is] {
			return strconv.Itoa(int(p)) + " is on another node"
		}
	}
	return ""
}

// Promise 10.4, T2: over splits and moves epochs rise, each point has one
// owner, and nothing goes but what is split or moved; what is refused is the
// table that it was, with its epoch.
func TestTurns(t *testing.T) {
	for seed := range 20 {
		x, _ := New([]int{1, 0, 2, 1}[:1+seed%4], 1+seed%3)
		n := uint32(seed)
		next := func(below int) int {
			n = n*1664525 + 1013904223
			return int(n>>16) % below
		}
		for range 40 {
			shard, node, other := next(len(x.Nodes)+2)-1, next(6)-1, -1
			var y api.Table
			var code int
			if next(2) == 0 {
				y, other, code = Split(x, shard)
			} else {
				y, code = Move(x, shard, node)
			}
			if code != api.OK {
				if !equal(x, y) {
					t.Fatal("refused, and another table")
				}
				continue
			}
			if wrong := checkTurn(x, y, shard, other); wrong != "" {
				t.Fatal(seed, shard, other, wrong)
			}
			x = y
		}
		if x.Epoch < 5 {
			t.Error(seed, "was hardly turned")
		}
	}
}

// spoil writes over all that x has, and behind it.
func spoil(x api.Table) {
	for i := range x.Arcs[:cap(x.Arcs)] {
		x.Arcs[:cap(x.Arcs)][i] = api.Arc{From: 3, Shard: 12}
	}
	for i := range x.Nodes[:cap(x.Nodes)] {
		x.Nodes[:cap(x.Nodes)][i] = -7
	}
}

// Rules 2 and 3: arguments stay as they are, answers are new each time and the same each time.
func TestAnswersAreOwn(t *testing.T) {
	for i, x := range append(good(), bad()...) {
		x.Nodes = append(make([]int, 0, len(x.Nodes)+4), x.Nodes...)
		x.Arcs = append(make([]api.Arc, 0, len(x.Arcs)+4), x.Arcs...)
		kept := copyOf(x)
		for k := -1; k < 4; k++ {
			split, other, code := Split(x, k)
			moved, moveCode := Move(x, k, 1)
			splitKept, movedKept := copyOf(split), copyOf(moved)
			spoil(split)
			if !equal(moved, movedKept) {
				t.Fatal(i, "Split and Move share")
			}
			spoil(moved)
			if !equal(x, kept) {
				t.Fatal(i, "was changed, or is shared")
			}
			again, otherAgain, codeAgain := Split(x, k)
			movedAgain, moveCodeAgain := Move(x, k, 1)
			if !equal(again, splitKept) || other != otherAgain || code != codeAgain || !equal(movedAgain, movedKept) || moveCode != moveCodeAgain {
				t.Fatal(i, "answers otherwise the second time")
			}
		}
		May(x)
		Find(x, "key")
		Same(x, x)
		Put(x)
		if !equal(x, kept) || slices.ContainsFunc(x.Nodes[len(x.Nodes):cap(x.Nodes)], func(n int) bool { return n != 0 }) {
			t.Error(i, "was changed")
		}
	}
	weights := []int{1, 0, 2}
	x, _ := New(weights, 2)
	want := copyOf(x)
	spoil(x)
	if y, _ := New(weights, 2); !equal(y, want) || !slices.Equal(weights, []int{1, 0, 2}) {
		t.Error("New's answer is shared")
	}
}
