package seg

import (
	"bytes"
	"math/big"
	"slices"
	"testing"

	"carrefour/api"
)

// counted is n bytes, all kinds of them.
func counted(n int) []byte {
	b := make([]byte, n)
	for i := range b {
		b[i] = byte(7*i*i + 3)
	}
	return b
}

// sums are bytes and their sums, worked out apart from the program.
func sums() []struct {
	b   []byte
	sum uint32
} {
	all := make([]byte, 256)
	for i := range all {
		all[i] = byte(i)
	}
	return []struct {
		b   []byte
		sum uint32
	}{
		{nil, 1},
		{[]byte{}, 1},
		{[]byte{0}, 2097184},
		{[]byte{255}, 18809119},
		{[]byte("a"), 8454273},
		{[]byte("hi"), 292163810},
		{[]byte("record"), 4164747491},
		{[]byte{255, 255, 255}, 2054903195},
		{all, 3970165031},
		{bytes.Repeat([]byte("x"), 20000), 2850132826},
		{bytes.Repeat([]byte{255}, 20000), 956161397},
		{make([]byte, 20000), 716795371},
		{counted(100000), 1374281183},
	}
}

// Promise 11.1, Sum.
func TestSum(t *testing.T) {
	for i, c := range sums() {
		if sum := Sum(c.b); sum != c.sum {
			t.Errorf("%d: %d, not %d", i, sum, c.sum)
		}
	}
}

// sumOfLarge is Sum with numbers that go round by nothing until the end.
func sumOfLarge(b []byte) uint32 {
	x, y := big.NewInt(1), big.NewInt(0)
	for _, c := range b {
		x.Mul(x, big.NewInt(31))
		x.Add(x, big.NewInt(int64(c)+1))
		y.Add(y, x)
	}
	around := big.NewInt(65521)
	x.Mod(x, around)
	y.Mod(y, around)
	return uint32(y.Int64()<<16 + x.Int64())
}

// Promise 11.1, Sum: of each length, as numbers without end have it.
func TestSumOfAnyLength(t *testing.T) {
	b := counted(700)
	for n := range len(b) + 1 {
		for _, part := range [][]byte{b[:n], b[len(b)-n:], bytes.Repeat([]byte{255}, n)} {
			if sum, want := Sum(part), sumOfLarge(part); sum != want {
				t.Fatalf("%d bytes: %d, not %d", n, sum, want)
			}
		}
	}
}

// Promise 11.1, Sum: other bytes, or others' places, or fewer, are seen by it.
func TestSumSees(t *testing.T) {
	b := []byte("what a record is of")
	for k := range b {
		for to := range 256 {
			x := slices.Clone(b)
			x[k] = byte(to)
			if (Sum(x) == Sum(b)) != (x[k] == b[k]) {
				t.Error("byte", k, "as", to)
			}
		}
		if Sum(b[:k]) == Sum(b) || Sum(append(slices.Clone(b), make([]byte, k+1)...)) == Sum(b) {
			t.Error(k, "bytes left, or more")
		}
	}
}

// headed is b behind length and sum, whether or not they are b's.
func headed(length int, sum uint32, b []byte) []byte {
	return append([]byte{byte(length >> 8), byte(length), byte(sum >> 24), byte(sum >> 16), byte(sum >> 8), byte(sum)}, b...)
}

// Promise 11.1, Record: just these bytes.
func TestRecord(t *testing.T) {
	for i, c := range []struct{ b, want string }{
		{"\x00", "\x00\x01\x00\x20\x00\x20\x00"},
		{"\xff", "\x00\x01\x01\x1f\x01\x1f\xff"},
		{"hi", "\x00\x02\x11\x6a\x10\xe2hi"},
		{"record", "\x00\x06\xf8\x3d\x00\xe3record"},
	} {
		if b, code := Record([]byte(c.b)); code != api.OK || string(b) != c.want {
			t.Errorf("%d: %q, %d", i, b, code)
		}
	}
	for _, n := range []int{1, 2, 255, 256, 257, 4096, 19999, 20000} {
		b, code := Record(counted(n))
		if code != api.OK || !bytes.Equal(b, headed(n, sumOfLarge(counted(n)), counted(n))) {
			t.Errorf("%d bytes: %d bytes, %d", n, len(b), code)
		}
	}
	if b, _ := Record(make([]byte, 20000)); b[0] != 0x4e || b[1] != 0x20 {
		t.Error("20,000 as", b[:2])
	}
}

// Promise 11.1, Record: ErrArg of no bytes, and of more than 20,000.
func TestRecordErrArg(t *testing.T) {
	for _, b := range wrong() {
		if r, code := Record(b); code != api.ErrArg || len(r) != 0 {
			t.Errorf("%d bytes: %d bytes, %d", len(b), len(r), code)
		}
	}
}

// wrong are bytes that no record is of. The two lowest bytes of the last ones'
// lengths would be 65,535, nought and 1.
func wrong() [][]byte {
	return [][]byte{nil, {}, counted(20001), counted(40000), counted(65535), counted(65536), counted(65537)}
}

// logOf is the bytes of those records.
func logOf(l ...string) []byte {
	var b []byte
	for _, s := range l {
		b = append(b, headed(len(s), sumOfLarge([]byte(s)), []byte(s))...)
	}
	return b
}

func texts(l [][]byte) []string {
	var s []string
	for _, b := range l {
		s = append(s, string(b))
	}
	return s
}

// reads tells whether Read of b is want, and what they take up in a log.
func reads(b []byte, want ...string) bool {
	l, n := Read(b)
	return slices.Equal(texts(l), want) && n == len(logOf(want...))
}

// records are lists of what records are of.
func records() [][]string {
	return [][]string{
		nil,
		{"a"},
		{"one", "two", "three"},
		{"same", "same", "same"},
		{"\x00", "\x00\x00", "\xff\xff\xff"},
		{string(logOf("a record", "in a record")), "x"},
		{string(counted(20000)), string(counted(256)), string(counted(19999))},
		slices.Repeat([]string{"z"}, 3000),
	}
}

// Promise 11.1, Read: all that Record made.
func TestRead(t *testing.T) {
	for i, l := range records() {
		if !reads(logOf(l...), l...) {
			t.Error(i, "is not read whole")
		}
		var b []byte
		for _, s := range l {
			r, _ := Record([]byte(s))
			b = append(b, r...)
		}
		if !reads(b, l...) {
			t.Error(i, "is not read as Record makes it")
		}
	}
	if !reads([]byte{}) {
		t.Error("no bytes have records")
	}
}

// Promise 11.1, Read: as far as each is whole, wherever the end is torn off.
func TestReadTorn(t *testing.T) {
	l := []string{"one", "a", "three", "\x00\x00", "last"}
	b := logOf(l...)
	for n := range len(b) {
		whole := 0
		for len(logOf(l[:whole+1]...)) <= n {
			whole++
		}
		if !reads(b[:n], l[:whole]...) {
			t.Error("torn at", n)
		}
		// What lies behind the end of a slice is no part of it.
		if !reads(slices.Clip(slices.Clone(b[:n])), l[:whole]...) {
			t.Error("torn at", n, "without the rest")
		}
	}
	long := logOf(string(counted(20000)), "x")
	for _, n := range []int{0, 1, 2, 5, 6, 7, 20004, 20005} {
		if !reads(long[:n]) {
			t.Error("a long one torn at", n)
		}
	}
	if !reads(long[:20006], string(counted(20000))) || !reads(long[:20012], string(counted(20000))) {
		t.Error("a long one, and a torn one")
	}
}

// Promise 11.1, Read: as far as each has its Sum, whichever byte is another one.
func TestReadChanged(t *testing.T) {
	l := []string{"one", "a", "three", "\x00\x00", "last"}
	b := logOf(l...)
	for k := range b {
		whole := 0
		for len(logOf(l[:whole+1]...)) <= k {
			whole++
		}
		for to := range 256 {
			x := slices.Clone(b)
			x[k] = byte(to)
			want := l[:whole]
			if x[k] == b[k] {
				want = l
			}
			if !reads(x, want...) {
				t.Fatal("byte", k, "as", to)
			}
		}
	}
}

// Promise 11.1, Read: what stands behind bytes that are no record is not read.
func TestReadEnds(t *testing.T) {
	for i, none := range [][]byte{
		{0},
		{0, 0, 0, 0, 0, 1}, // its length is nought, its Sum that of nothing
		{0, 0, 0, 0, 0, 0},
		{255, 255, 255, 255, 255, 255},
		headed(2, 292163811, []byte("hi")),
		headed(2, 292163810+65521, []byte("hi")),
		headed(2, 292163810, []byte("ho")),
		headed(1, 292163810, []byte("hi")),
		headed(3, 292163810, []byte("hi")),
		headed(2, 0, []byte("hi")),
		headed(0, 292163810, []byte("hi")),
		{2, 0, 0x11, 0x6a, 0x10, 0xe2, 'h', 'i'},                        // numbers the other way round
		{0, 2, 0xe2, 0x10, 0x6a, 0x11, 'h', 'i'},                        //
		{0, 2, 'h', 'i', 0x11, 0x6a, 0x10, 0xe2},                        // the Sum behind
		{0x11, 0x6a, 0x10, 0xe2, 0, 2, 'h', 'i'},                        // the length behind
		headed(20001, sumOfLarge(counted(20001)), counted(20001)),       // no Record makes these
		headed(40000, sumOfLarge(counted(40000)), counted(40000)),       //
		headed(65535, sumOfLarge(counted(65535)), counted(65535)),       //
		headed(20000, sumOfLarge(counted(20000))^1, counted(20000)),     // a Sum that is not theirs
		headed(20000, sumOfLarge(counted(20000))^1<<31, counted(20000)), //
	} {
		if !reads(none) {
			t.Error(i, "is read")
		}
		if !reads(append(slices.Clone(none), logOf("behind")...)) {
			t.Error(i, "is read, or what is behind it")
		}
		if !reads(slices.Concat(logOf("one", "two"), none, logOf("behind")), "one", "two") {
			t.Error(i, "is read behind two")
		}
	}
}

// Rules 2 and 3: bytes that are handed in stay as they are; answers are the
// caller's own, and the same each time.
func TestAnswersAreOwn(t *testing.T) {
	l := []string{"one", "a", "three"}
	b := append(make([]byte, 0, 100), logOf(l...)...)
	whole := slices.Clone(b[:100])
	got, _ := Read(b)
	Sum(b)
	Record(b)
	if !bytes.Equal(b[:100], whole) {
		t.Error("was changed")
	}
	clear(b)
	if !slices.Equal(texts(got), l) {
		t.Error("the records change with their bytes")
	}
	spoil(got[0])
	if !slices.Equal(texts(got[1:]), l[1:]) {
		t.Error("the records share")
	}
	data := []byte("data")
	r, _ := Record(data)
	clear(data)
	if !bytes.Equal(r, logOf("data")) {
		t.Error("a record changes with its bytes")
	}
	spoil(r)
	if r, _ := Record([]byte("data")); !bytes.Equal(r, logOf("data")) {
		t.Error("a record is shared")
	}
}

// spoil changes b, and what may lie behind it.
func spoil(b []byte) {
	for i := range b[:cap(b)] {
		b[:cap(b)][i] ^= 0x55
	}
}
