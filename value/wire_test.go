package value

import (
	"bytes"
	"math"
	"strings"
	"testing"

	"carrefour/api"
)

// wires are tables and their bytes, worked out by hand.
var wires = []struct {
	l []api.Item
	b string
}{
	{nil, "\x00\x00\x00\x00"},
	{[]api.Item{}, "\x00\x00\x00\x00"},
	{[]api.Item{{Name: "a"}}, "\x00\x00\x00\x03\x01aV"},
	{[]api.Item{item("no", num(api.VBool, 0))}, "\x00\x00\x00\x05\x02not\x00"},
	{[]api.Item{item("yes", num(api.VBool, 1))}, "\x00\x00\x00\x06\x03yest\x01"},
	{[]api.Item{item("i", num(api.VInt, 0x01020304))}, "\x00\x00\x00\x07\x01iI\x01\x02\x03\x04"},
	{[]api.Item{item("i", num(api.VInt, -1))}, "\x00\x00\x00\x07\x01iI\xff\xff\xff\xff"},
	{[]api.Item{item("i", num(api.VInt, math.MinInt32))}, "\x00\x00\x00\x07\x01iI\x80\x00\x00\x00"},
	{[]api.Item{item("i", num(api.VInt, math.MaxInt32))}, "\x00\x00\x00\x07\x01iI\x7f\xff\xff\xff"},
	{[]api.Item{item("l", num(api.VLong, 0x0102030405060708))}, "\x00\x00\x00\x0b\x01ll\x01\x02\x03\x04\x05\x06\x07\x08"},
	{[]api.Item{item("l", num(api.VLong, -2))}, "\x00\x00\x00\x0b\x01ll\xff\xff\xff\xff\xff\xff\xff\xfe"},
	{[]api.Item{item("l", num(api.VLong, math.MinInt64))}, "\x00\x00\x00\x0b\x01ll\x80\x00\x00\x00\x00\x00\x00\x00"},
	{[]api.Item{item("l", num(api.VLong, math.MaxInt64))}, "\x00\x00\x00\x0b\x01ll\x7f\xff\xff\xff\xff\xff\xff\xff"},
	{[]api.Item{item("s", text(""))}, "\x00\x00\x00\x07\x01sS\x00\x00\x00\x00"},
	{[]api.Item{item("s", text("hi\x00\xff"))}, "\x00\x00\x00\x0b\x01sS\x00\x00\x00\x04hi\x00\xff"},
	{[]api.Item{item("\u00e9", text("\u00e9"))}, "\x00\x00\x00\x0a\x02\xc3\xa9S\x00\x00\x00\x02\xc3\xa9"},
	{[]api.Item{item("f", table())}, "\x00\x00\x00\x07\x01fF\x00\x00\x00\x00"},
	{[]api.Item{item("f", table(item("a", api.Value{}))), {Name: "b"}}, "\x00\x00\x00\x0d\x01fF\x00\x00\x00\x03\x01aV\x01bV"},
	{[]api.Item{item("b", num(api.VBool, 1)), item("a", num(api.VBool, 0))}, "\x00\x00\x00\x08\x01bt\x01\x01at\x00"},
	{deep(4), "\x00\x00\x00\x18\x01xF\x00\x00\x00\x11\x01xF\x00\x00\x00\x0a\x01xF\x00\x00\x00\x03\x01xV"},
}

// long is a table of so many bytes in all: at most 6,636, none of its texts more than 200.
func long(t *testing.T, size int) []api.Item {
	t.Helper()
	var l []api.Item
	size -= 4
	for size > 0 {
		part := min(size, 207)
		if size-part > 0 && size-part < 7 {
			part -= 7
		}
		l = append(l, item(string(rune('0'+len(l))), text(strings.Repeat("x", part-7))))
		size -= part
	}
	if !MayTable(l) {
		t.Fatal("a long table may not be")
	}
	return l
}

// Promise 3.2, Put.
func TestPut(t *testing.T) {
	for k, x := range wires {
		b, code := Put(x.l)
		if code != api.OK || string(b) != x.b {
			t.Errorf("%d: %q, %d, not %q", k, b, code, x.b)
		}
	}
	name := strings.Repeat("n", 40)
	b, code := Put([]api.Item{item(name, text(strings.Repeat("x", 200)))})
	if want := "\x00\x00\x00\xf6\x28" + name + "S\x00\x00\x00\xc8" + strings.Repeat("x", 200); code != api.OK || string(b) != want {
		t.Errorf("%q, %d, not %q", b, code, want)
	}
}

// Promise 3.2, Put: of 3,000 bytes, and of more.
func TestPutLong(t *testing.T) {
	for _, size := range []int{2999, 3000} {
		b, code := Put(long(t, size))
		if code != api.OK || len(b) != size || b[2] != byte((size-4)>>8) || b[3] != byte((size-4)&255) {
			t.Errorf("of %d: %d bytes, %d", size, len(b), code)
		}
	}
	within := func(size int) []api.Item { return []api.Item{item("t", table(long(t, size-7)...))} }
	if b, code := Put(within(3000)); code != api.OK || len(b) != 3000 {
		t.Errorf("within, of 3000: %d bytes, %d", len(b), code)
	}
	for k, l := range [][]api.Item{
		long(t, 3001),
		long(t, 3002),
		long(t, 3007),
		long(t, 6000),
		within(3001),
		append(many(1), item("t", table(long(t, 2999)...))),
		append(long(t, 2998), api.Item{Name: "z"}),
		thick(3),
		thick(4),
	} {
		if b, code := Put(l); code != api.SyntaxErr || len(b) != 0 {
			t.Errorf("%d: %d bytes, %d", k, len(b), code)
		}
	}
}

// Promise 3.2, Put: what may not be a table, too long ones too.
func TestPutNot(t *testing.T) {
	for k, l := range [][]api.Item{
		{{}},
		many(33),
		deep(5),
		{{Name: "a"}, {Name: "a"}},
		{item("a", num(api.VBool, 2))},
		{item("a", num(api.VInt, 1<<31))},
		{item("a", api.Value{Kind: 6})},
		{item("a", api.Value{Kind: -1})},
		{item("a", text(strings.Repeat("x", 201)))},
		{item(strings.Repeat("n", 41), api.Value{})},
		append(long(t, 4000), api.Item{}),
		append(long(t, 4000), item("z", api.Value{S: "x"})),
		loop(),
		knot(32),
		thick(5),
	} {
		if b, code := Put(l); code != api.ErrArg || len(b) != 0 {
			t.Errorf("%d: %q, %d", k, b, code)
		}
	}
}

// Promise 3.2, Get.
func TestGet(t *testing.T) {
	for k, x := range wires {
		b := []byte(x.b)
		l, code := Get(b)
		if code != api.OK || !Same(l, x.l) {
			t.Errorf("%d: %+v, %d, not %+v", k, l, code, x.l)
		}
		if string(b) != x.b {
			t.Errorf("%d: the bytes are others now", k)
		}
	}
	for _, size := range []int{2999, 3000} {
		want := long(t, size)
		b, _ := Put(want)
		if l, code := Get(b); code != api.OK || !Same(l, want) {
			t.Errorf("of %d: %d", size, code)
		}
	}
}

// refused asks that b is SyntaxErr's.
func refused(t *testing.T, b []byte) {
	t.Helper()
	if l, code := Get(b); code != api.SyntaxErr || len(l) != 0 {
		t.Errorf("%.80q: %+v, %d", b, l, code)
	}
}

// wire is a table of these bytes.
func wire(s string) []byte {
	return append([]byte{byte(len(s) >> 24), byte(len(s) >> 16), byte(len(s) >> 8), byte(len(s))}, s...)
}

// Promise 3.2, Get: bytes that no Put makes.
func TestGetNot(t *testing.T) {
	for _, s := range []string{
		"", "\x00", "\x00\x00\x00",
		"\x00\x00\x00\x01", "\x00\x00\x00\x00\x00", "\x00\x00\x00\x02\x01aV", "\x00\x00\x00\x04\x01aV",
		"\x00\x00\x00\x04\x01aV\x00", "\x00\x00\x00\x00\x01aV", "\x03\x00\x00\x00\x01aV", "\x00\x00\x03\x00\x01aV",
		"\x7f\xff\xff\xff\x01aV", "\xff\xff\xff\xff", "\xff\xff\xff\xff\x01aV", "\x80\x00\x00\x03\x01aV",
	} {
		refused(t, []byte(s))
	}
	for _, s := range []string{
		"\x00", "\x00V", "\x01", "\x01a", "\x02aV", "\x01aV\x00", "\x01aV\x01", "\x01aV\x00V",
		"\x29" + strings.Repeat("n", 41) + "V", "\xff" + strings.Repeat("n", 255) + "V",
		"\x01aV\x01aV", "\x01aV\x01bV\x01at\x00",
		"\x01aX", "\x01av", "\x01aT", "\x01ai", "\x01aL", "\x01as", "\x01af", "\x01a\x00", "\x01a\xff", "\x01a\x01",
		"\x01at", "\x01at\x02", "\x01at\xff", "\x01at\x01\x01",
		"\x01aI", "\x01aI\x00\x00\x00", "\x01aI\x00\x00\x00\x00\x00",
		"\x01al", "\x01al\x00\x00\x00\x00\x00\x00\x00", "\x01al\x00\x00\x00\x00\x00\x00\x00\x00\x00",
		"\x01aS", "\x01aS\x00\x00\x00", "\x01aS\x00\x00\x00\x01", "\x01aS\x00\x00\x00\x01xy", "\x01aS\xff\xff\xff\xffx",
		"\x01aS\x00\x00\x00\xc9" + strings.Repeat("x", 201),
		"\x01aF", "\x01aF\x00\x00\x00", "\x01aF\x00\x00\x00\x01", "\x01aF\x00\x00\x00\x03\x01b", "\x01aF\x00\x00\x00\x02\x01bV",
		"\x01aF\x00\x00\x00\x00V", "\x01aF\x00\x00\x00\x02\x00V", "\x01aF\x00\x00\x00\x06\x01bV\x01bV", "\x01aF\xff\xff\xff\xff\x01bV",
		"\x01aF\x00\x00\x00\x04\x01bV\x01\x01cV",
	} {
		refused(t, wire(s))
	}
	names := ""
	for k := range 33 {
		names += "\x01" + string(rune('0'+k)) + "V"
	}
	refused(t, wire(names))
	refused(t, wire("\x01aF"+string(wire(names))))
	if l, code := Get(wire(names[3:])); code != api.OK || len(l) != 32 {
		t.Error("32 items", code)
	}
}

// Promise 3.2, Get: too deep, to the end of the bytes.
func TestGetTooDeep(t *testing.T) {
	inner := string(wire(""))
	for k := 1; len(inner) <= 3000; k++ {
		if l, code := Get([]byte(inner)); (code == api.OK) != (k <= 4) || code != api.OK && (code != api.SyntaxErr || len(l) != 0) {
			t.Errorf("%d deep: %d", k, code)
		}
		inner = string(wire("\x01xF" + inner))
	}
}

// Promise 3.2, Get: more than 3,000 bytes, in the shape of Put's.
func TestGetTooLong(t *testing.T) {
	for _, size := range []int{3001, 3002, 4000, 6000} {
		s := ""
		for _, x := range long(t, size) {
			s += "\x01" + x.Name + "S" + string(wire(x.V.S))
		}
		b := wire(s)
		if len(b) != size {
			t.Fatal(len(b), size)
		}
		refused(t, b)
	}
}

// Promise 3.2, Get: what is cut, or goes on, is none.
func TestGetCut(t *testing.T) {
	for _, x := range wires {
		for n := range len(x.b) {
			refused(t, []byte(x.b[:n]))
		}
		for c := range 256 {
			refused(t, append([]byte(x.b), byte(c)))
		}
	}
}

// Promise 3.2, Get: with any one byte changed it is none, or what Put makes of another table.
func TestGetChanged(t *testing.T) {
	var taken, not int
	for _, x := range wires {
		for n := range len(x.b) {
			for c := range 256 {
				b := []byte(x.b)
				b[n] = byte(c)
				l, code := Get(b)
				if code != api.OK {
					not++
					refused(t, b)
					continue
				}
				taken++
				if again, code := Put(l); code != api.OK || !bytes.Equal(again, b) {
					t.Errorf("%q: %+v, whose bytes are %q, %d", b, l, again, code)
				}
			}
		}
	}
	if taken == 0 || not == 0 {
		t.Error(taken, not)
	}
}

// Rule 2: what is answered is the caller's own.
func TestWireIsOwn(t *testing.T) {
	l := []api.Item{item("a", text("hi")), item("f", table(item("b", text("x"))))}
	b, _ := Put(l)
	want := string(b)
	got, _ := Get(b)
	clear(b)
	if !Same(got, l) {
		t.Error("Get kept its bytes")
	}
	other, _ := Get([]byte(want))
	other[0].Name, other[1].V.Items[0].Name = "z", "z"
	again, _ := Put(l)
	if string(again) != want || !Same(got, l) {
		t.Error("two answers share memory")
	}
}

// Promise 3.3: arguments go through the wire: of many tables what is got is what was put.
func TestThroughTheWire(t *testing.T) {
	through, tooLong := 0, 0
	for seed := range 3000 {
		s := source(seed)
		want := s.table(1)
		if !MayTable(want) {
			t.Fatalf("%d: %+v may not be", seed, want)
		}
		b, code := Put(want)
		if code == api.SyntaxErr && s.size > 3000 {
			tooLong++
			continue
		}
		got, back := Get(b)
		if code != api.OK || back != api.OK || len(b) != s.size || !Same(got, want) {
			t.Fatalf("%d: %d bytes of %d, %d, %d", seed, len(b), s.size, code, back)
		}
		through++
	}
	if through < 1000 || tooLong < 10 {
		t.Error(through, tooLong)
	}
}

// making makes tables, the same ones of the same seed, and counts their bytes.
type making struct {
	state uint64
	size  int
}

func source(seed int) *making { return &making{state: uint64(seed)*2 + 1} }

func (m *making) below(n int) int {
	m.state = m.state*6364136223846793005 + 1442695040888963407
	return int(m.state >> 33 % uint64(n))
}

func (m *making) table(level int) []api.Item {
	m.size += 4
	var l []api.Item
	for k := range m.below(12) {
		name := string(rune('a'+k)) + strings.Repeat("\xfe", m.below(40))
		m.size += len(name) + 2
		l = append(l, item(name, m.value(level)))
	}
	return l
}

func (m *making) value(level int) api.Value {
	switch kind := m.below(6); {
	case kind == api.VBool:
		m.size++
		return num(kind, int64(m.below(2)))
	case kind == api.VInt:
		m.size += 4
		return num(kind, int64(int32(m.below(1<<31)<<1)))
	case kind == api.VLong:
		m.size += 8
		return num(kind, int64(m.below(1<<31))<<32^int64(m.below(1<<31))<<8)
	case kind == api.VText:
		s := strings.Repeat("\x00\x01", m.below(101))
		m.size += 4 + len(s)
		return text(s)
	case kind == api.VTable && level < api.MaxDeep:
		return table(m.table(level + 1)...)
	}
	return api.Value{}
}
