package point

import (
	"math"
	"strconv"
	"strings"
	"testing"

	"carrefour/api"
	"carrefour/quad"
)

// Promise 2.1, Of: the places were worked out apart from this program.
func TestOf(t *testing.T) {
	for _, x := range []struct {
		s    string
		want uint32
	}{
		{"", 760700053},
		{"\x00", 2614109414},
		{"\x00\x00\x00", 3463101980},
		{"a", 3035041849},
		{"b", 395911255},
		{"ab", 1994101313},
		{"ba", 1968202387},
		{"key", 857921051},
		{"0/0", 3956664609},
		{"q#0", 2100620716},
		{"\x80", 3438070125},
		{"\xff\x00", 2815855815},
		{"\xff\xfe\xfd", 1144545119},
		{"\u00e9", 347283115},
		{"\u65e5\u672c", 4218162778},
		{"a longer text that goes round and round", 1569463660},
		{strings.Repeat("x", 1000), 3939814550},
	} {
		if got := Of(x.s); got != x.want {
			t.Errorf("Of(%.40q) = %d, not %d", x.s, got, x.want)
		}
	}
}

// inWords is Of as chapter 2 says it: 64 bits wide, cut to 32 at each step.
func inWords(s string) uint32 {
	const low = 1<<32 - 1
	h := uint64(2166136261)
	for k := range len(s) {
		h ^= uint64(s[k])
		h = h * 16777619 & low
	}
	h ^= h >> 15
	h = h * 2246822519 & low
	h ^= h >> 13
	return uint32(h)
}

// Promise 2.1, Of: every byte alone, behind others and ahead of others; and a long text.
func TestOfEveryByte(t *testing.T) {
	seen := map[uint32]string{}
	for c := range 256 {
		b := string([]byte{byte(c)})
		for _, s := range []string{b, "key" + b, b + "key", b + b} {
			got := Of(s)
			if want := inWords(s); got != want {
				t.Errorf("Of(%q) = %d, not %d", s, got, want)
			}
			if other, ok := seen[got]; ok && other != s {
				t.Errorf("%q and %q have one place", s, other)
			}
			seen[got] = s
		}
	}
	long := strings.Repeat("round and ", 200_000)
	if Of(long) != inWords(long) || Of(long) == Of(long[1:]) {
		t.Error("a long text's place")
	}
}

// Promise 2.1, Mark.
func TestMark(t *testing.T) {
	for _, x := range []struct {
		shard, i int
		want     uint32
	}{
		{0, 0, 3956664609},
		{0, 1, 2796100680},
		{1, 0, 3569644817},
		{3, 17, 3569341780},
		{15, 31, 2903631933},
		{1, 23, 2059035597},
		{12, 3, 1728942306},
		{-1, 0, 3995475773},
		{0, -1, 3346304263},
		{-1, -20, 294082752},
		{math.MaxInt64, math.MinInt64, 330007514},
		{math.MinInt64, math.MaxInt64, 2179618944},
	} {
		if got := Mark(x.shard, x.i); got != x.want {
			t.Errorf("Mark(%d, %d) = %d, not %d", x.shard, x.i, got, x.want)
		}
	}
	for x, text := range map[[2]int]string{
		{7, 10}:         "7/10",
		{10, 7}:         "10/7",
		{-7, 100}:       "-7/100",
		{1 << 30, 1}:    "1073741824/1",
		{-1 << 31, 255}: "-2147483648/255",
	} {
		if Mark(x[0], x[1]) != Of(text) {
			t.Errorf("Mark(%d, %d) is not the place of %s", x[0], x[1], text)
		}
	}
}

// ringEnds are points at the ends of the ring and of its quarters.
var ringEnds = []uint32{
	0, 1, 2, 1<<30 - 1, 1 << 30, 1<<30 + 1, 1<<31 - 1, 1 << 31, 1<<31 + 1,
	3<<30 - 1, 3 << 30, 3<<30 + 1, 1<<32 - 2, 1<<32 - 1,
}

// Promise 2.1, Way.
func TestWay(t *testing.T) {
	for _, x := range []struct{ a, b, want uint32 }{
		{0, 0, 0},
		{7, 7, 0},
		{3, 5, 2},
		{5, 3, 1<<32 - 2},
		{0, 1<<32 - 1, 1<<32 - 1},
		{1<<32 - 1, 0, 1},
		{1<<32 - 1, 1<<32 - 1, 0},
		{1 << 31, 0, 1 << 31},
		{0, 1 << 31, 1 << 31},
		{1, 0, 1<<32 - 1},
		{3 << 30, 1 << 30, 1 << 31},
		{3<<30 + 1, 1 << 30, 1<<31 - 1},
	} {
		if got := Way(x.a, x.b); got != x.want {
			t.Errorf("Way(%d, %d) = %d, not %d", x.a, x.b, got, x.want)
		}
	}
	for _, a := range ringEnds {
		for _, b := range ringEnds {
			if a+Way(a, b) != b {
				t.Errorf("from %d by Way to %d: %d", a, b, a+Way(a, b))
			}
			if a != b && uint64(Way(a, b))+uint64(Way(b, a)) != 1<<32 {
				t.Errorf("from %d to %d and back is not once round", a, b)
			}
		}
	}
}

// Promise 2.2, Dir.
func TestDir(t *testing.T) {
	for _, x := range []struct {
		p    uint32
		want int
	}{
		{0, 0}, {1, 0}, {1<<30 - 1, 0},
		{1 << 30, 1}, {1<<30 + 1, 1}, {1<<31 - 1, 1},
		{1 << 31, 2}, {1<<31 + 1, 2}, {3<<30 - 1, 2},
		{3 << 30, 3}, {3<<30 + 1, 3}, {1<<32 - 1, 3},
	} {
		if got := Dir(x.p); got != x.want {
			t.Errorf("Dir(%d) = %d, not %d", x.p, got, x.want)
		}
	}
}

// sameBits tells whether two numbers are one, the signs of their noughts too.
func sameBits(a, b complex128) bool {
	return math.Float64bits(real(a)) == math.Float64bits(real(b)) &&
		math.Float64bits(imag(a)) == math.Float64bits(imag(b))
}

// Promise 2.2, Lean.
func TestLean(t *testing.T) {
	for _, x := range []struct {
		p    uint32
		load int
		want complex128
	}{
		{0, 7, 7},
		{1<<30 - 1, 7, 7},
		{1 << 30, 7, 7i},
		{1<<31 - 1, 7, 7i},
		{1 << 31, 7, -7},
		{3<<30 - 1, 7, -7},
		{3 << 30, 7, -7i},
		{1<<32 - 1, 7, -7i},
		{0, 0, 0},
		{3 << 30, 0, 0},
		{1 << 30, 1, 1i},
		{0, 1<<40 - 1, 1<<40 - 1},
		{0, 1 << 40, 1 << 40},
		{1 << 30, 1 << 40, complex(0, 1<<40)},
		{1 << 31, 1 << 40, -1 << 40},
		{3 << 30, 1 << 40, complex(0, -1<<40)},
	} {
		if got := Lean(x.p, x.load); got != x.want {
			t.Errorf("Lean(%d, %d) = %v, not %v", x.p, x.load, got, x.want)
		}
	}
}

// Promise 2.2, Lean: a load that is none leans nowhere.
func TestLeanOfNoLoad(t *testing.T) {
	for _, p := range ringEnds {
		for _, load := range []int{-1, -2, -7, -1 << 40, math.MinInt, math.MinInt + 1, 1<<40 + 1, 1 << 41, 1 << 53, math.MaxInt} {
			if got := Lean(p, load); !sameBits(got, 0) {
				t.Errorf("Lean(%d, %d) = %v, not 0", p, load, got)
			}
		}
	}
}

// Promise 2.2, Lean: the turn is that of 1.1, to the signs of its noughts.
func TestLeanIsTurned(t *testing.T) {
	for _, p := range ringEnds {
		for _, load := range []int{0, 1, 2, 7, 1<<30 + 1, 1<<40 - 1, 1 << 40} {
			got := Lean(p, load)
			if want := quad.Spin(complex(float64(load), 0), Dir(p)); !sameBits(got, want) {
				t.Errorf("Lean(%d, %d) = %v, not %v", p, load, got, want)
			}
			if far := float64(load) * float64(load); quad.Norm(got) != far || !quad.Whole(got) {
				t.Errorf("Lean(%d, %d) = %v is not as far as its load", p, load, got)
			}
		}
	}
}

// marks are the places of all the shards that a queue may have, of the greatest weight.
func marks() []uint32 {
	var l []uint32
	for shard := range api.MaxShards {
		for i := range api.Points * api.MaxWeight {
			l = append(l, Mark(shard, i))
		}
	}
	return l
}

// spread asks that places are unlike, and so many in each quarter of the ring.
func spread(t *testing.T, places []uint32, want [4]int) {
	t.Helper()
	seen := map[uint32]bool{}
	var quarters [4]int
	for _, p := range places {
		if seen[p] {
			t.Errorf("%d is a place twice", p)
		}
		seen[p] = true
		quarters[Dir(p)]++
	}
	if quarters != want {
		t.Errorf("places in the quarters: %v, not %v", quarters, want)
	}
}

// Promise 2.3: shards' places are unlike, and all round the ring.
func TestShardsHavePlaces(t *testing.T) {
	spread(t, marks(), [4]int{114, 136, 137, 125})
}

// Promise 2.3: keys' places are unlike, and all round the ring.
func TestKeysHavePlaces(t *testing.T) {
	var keys []uint32
	for n := range 4000 {
		keys = append(keys, Of("k"+strconv.Itoa(n)))
	}
	spread(t, keys, [4]int{951, 1054, 986, 1009})
}

// T2: each point of the ring has one owner: from no two marks is it as far, round, to one point.
func TestOneMarkIsNearest(t *testing.T) {
	l := marks()
	for _, p := range append([]uint32{Of(""), Of("key"), l[0], l[100] + 1, l[511] - 1}, ringEnds...) {
		ways := map[uint32]uint32{}
		for _, m := range l {
			far := Way(m, p)
			if other, ok := ways[far]; ok {
				t.Errorf("from %d and from %d it is as far to %d", other, m, p)
			}
			ways[far] = m
		}
	}
}

// The same arguments give the same answers, whatever was asked between.
func TestAgain(t *testing.T) {
	of, mark, lean := Of("key"), Mark(3, 17), Lean(1<<30, 7)
	marks()
	Of("another")
	Lean(0, -1)
	if Of("key") != of || Mark(3, 17) != mark || Lean(1<<30, 7) != lean {
		t.Error("another answer")
	}
}
