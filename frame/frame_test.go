package frame

import (
	"bytes"
	"math"
	"strings"
	"testing"

	"carrefour/api"
)

// kinds are all that a frame may be of.
var kinds = []int{api.FMethod, api.FHeader, api.FBody, api.FBeat}

func of(kind, channel int, data string) api.Frame {
	return api.Frame{Kind: kind, Channel: channel, Data: []byte(data)}
}

// isZero tells whether nothing is in f.
func isZero(f api.Frame) bool { return f.Kind == 0 && f.Channel == 0 && len(f.Data) == 0 }

// maybes are frames that may be, and frames that may not.
var maybes = []struct {
	f    api.Frame
	want bool
}{
	{of(api.FMethod, 0, ""), true},
	{of(api.FHeader, 0, ""), true},
	{of(api.FBody, 0, ""), true},
	{of(api.FBeat, 0, ""), true},
	{api.Frame{Kind: api.FBeat}, true},
	{api.Frame{Kind: api.FBody, Channel: 7}, true},
	{of(api.FMethod, 1, "\x00"), true},
	{of(api.FHeader, 65534, "\xce"), true},
	{of(api.FBody, 65535, "\xff\xce"), true},
	{of(api.FMethod, 65535, strings.Repeat("x", 4095)), true},
	{of(api.FHeader, 65535, strings.Repeat("x", 4096)), true},
	{of(api.FBody, 65535, strings.Repeat("x", 4096)), true},

	{api.Frame{}, false},
	{of(api.FBeat, 1, ""), false},
	{of(api.FBeat, -1, ""), false},
	{of(api.FBeat, 65535, ""), false},
	{of(api.FBeat, 65536, ""), false},
	{of(api.FBeat, 0, "\x00"), false},
	{of(api.FBeat, 0, strings.Repeat("x", 4096)), false},
	{of(api.FMethod, -1, ""), false},
	{of(api.FHeader, -1, "x"), false},
	{of(api.FBody, 65536, ""), false},
	{of(api.FMethod, 65537, ""), false},
	{of(api.FMethod, math.MinInt, ""), false},
	{of(api.FMethod, math.MaxInt, ""), false},
	{of(api.FMethod, 0, strings.Repeat("x", 4097)), false},
	{of(api.FHeader, 0, strings.Repeat("x", 4097)), false},
	{of(api.FBody, 0, strings.Repeat("x", 4097)), false},
	{of(api.FBody, 0, strings.Repeat("x", 1<<20)), false},
}

// Promise 4.1, May; and Put, of what may not be.
func TestMay(t *testing.T) {
	for k, x := range maybes {
		if got := May(x.f); got != x.want {
			t.Errorf("%d: May is %t", k, got)
		}
		b, code := Put(x.f)
		if x.want && (code != api.OK || len(b) != len(x.f.Data)+8) || !x.want && (code != api.ErrArg || len(b) != 0) {
			t.Errorf("%d: %d bytes, %d", k, len(b), code)
		}
	}
}

// Promise 4.1, May and Put: of all kinds there are, four may be.
func TestMayKind(t *testing.T) {
	all := []int{math.MinInt, math.MaxInt, math.MinInt32, math.MaxInt32, 65537, 1 << 8, 1<<8 + 1, 1<<8 + 8, -8, -1}
	for k := range 256 {
		all = append(all, k)
	}
	for _, kind := range all {
		want := bytes.IndexByte([]byte{1, 2, 3, 8}, byte(kind)) >= 0 && kind > 0 && kind < 256
		f := api.Frame{Kind: kind}
		if May(f) != want {
			t.Errorf("kind %d: not %t", kind, want)
		}
		if b, code := Put(f); want != (code == api.OK) || !want && (code != api.ErrArg || len(b) != 0) {
			t.Errorf("kind %d: %q, %d", kind, b, code)
		}
	}
}

// wires are frames and their bytes, worked out by hand.
var wires = []struct {
	f api.Frame
	b string
}{
	{of(api.FBeat, 0, ""), "\x08\x00\x00\x00\x00\x00\x00\xce"},
	{of(api.FMethod, 0, ""), "\x01\x00\x00\x00\x00\x00\x00\xce"},
	{of(api.FHeader, 1, ""), "\x02\x00\x01\x00\x00\x00\x00\xce"},
	{of(api.FBody, 65535, ""), "\x03\xff\xff\x00\x00\x00\x00\xce"},
	{of(api.FMethod, 1, "\x00\x14\x00\x0a"), "\x01\x00\x01\x00\x00\x00\x04\x00\x14\x00\x0a\xce"},
	{of(api.FBody, 0x102, "hi"), "\x03\x01\x02\x00\x00\x00\x02hi\xce"},
	{of(api.FHeader, 256, "\xce"), "\x02\x01\x00\x00\x00\x00\x01\xce\xce"},
	{of(api.FBody, 255, "\xce\xce\x00"), "\x03\x00\xff\x00\x00\x00\x03\xce\xce\x00\xce"},
	{of(api.FBody, 8, "\x08\x00\x00\x00\x00\x00\x00\xce"), "\x03\x00\x08\x00\x00\x00\x08\x08\x00\x00\x00\x00\x00\x00\xce\xce"},
	{of(api.FMethod, 0x8001, strings.Repeat("a", 255)), "\x01\x80\x01\x00\x00\x00\xff" + strings.Repeat("a", 255) + "\xce"},
	{of(api.FMethod, 0x7fff, strings.Repeat("b", 256)), "\x01\x7f\xff\x00\x00\x01\x00" + strings.Repeat("b", 256) + "\xce"},
	{of(api.FHeader, 3, strings.Repeat("c", 0x123)), "\x02\x00\x03\x00\x00\x01\x23" + strings.Repeat("c", 0x123) + "\xce"},
	{of(api.FBody, 4, strings.Repeat("\xce", 4096)), "\x03\x00\x04\x00\x00\x10\x00" + strings.Repeat("\xce", 4097)},
}

// Promise 4.1, Put.
func TestPut(t *testing.T) {
	for k, x := range wires {
		if b, code := Put(x.f); code != api.OK || string(b) != x.b {
			t.Errorf("%d: %.40q, %d, not %.40q", k, b, code, x.b)
		}
	}
}

// Promise 4.2, Same: frames that are the same, also such as may not be.
func TestSame(t *testing.T) {
	for k, x := range [][2]api.Frame{
		{{}, {}},
		{{Kind: 1}, {Kind: 1, Data: []byte{}}},
		{{Kind: 1, Data: []byte{}}, {Kind: 1}},
		{of(1, 2, "abc"), of(1, 2, "abc")},
		{of(-5, -6, "abc"), of(-5, -6, "abc")},
		{of(api.FBeat, 70000, strings.Repeat("x", 9000)), of(api.FBeat, 70000, strings.Repeat("x", 9000))},
		{{Data: []byte("abcd")[:2:2]}, {Data: []byte("abxy")[:2]}},
	} {
		if !Same(x[0], x[1]) || !Same(x[1], x[0]) {
			t.Errorf("%d: they are the same", k)
		}
	}
	for k, x := range wires {
		if !Same(x.f, x.f) {
			t.Errorf("%d: a frame and itself", k)
		}
	}
}

// Promise 4.2, Same: with one part other they are not.
func TestSameNot(t *testing.T) {
	one := of(api.FBody, 2, "abc")
	for k, other := range []api.Frame{
		{},
		of(api.FHeader, 2, "abc"),
		of(-api.FBody, 2, "abc"),
		of(api.FBody+256, 2, "abc"),
		of(api.FBody, 3, "abc"),
		of(api.FBody, -2, "abc"),
		of(api.FBody, 2+65536, "abc"),
		of(api.FBody, 2, ""),
		{Kind: api.FBody, Channel: 2},
		of(api.FBody, 2, "ab"),
		of(api.FBody, 2, "abcd"),
		of(api.FBody, 2, "abc\x00"),
		of(api.FBody, 2, "abd"),
		of(api.FBody, 2, "Abc"),
		of(api.FBody, 2, "acb"),
	} {
		if Same(one, other) || Same(other, one) {
			t.Errorf("%d: they are not the same", k)
		}
	}
}

// Rules 2 and 3: nothing that is handed in is changed or kept, and the same is answered again.
func TestNothingIsChanged(t *testing.T) {
	room := []byte("hello, more")
	f := api.Frame{Kind: api.FBody, Channel: 9, Data: room[:5]}
	first, _ := Put(f)
	want := string(first)
	for range 3 {
		May(f)
		Same(f, f)
		b, code := Put(f)
		if code != api.OK || string(b) != want || string(room) != "hello, more" {
			t.Fatal("other", code)
		}
		clear(b[:cap(b)])
		if string(room) != "hello, more" || string(first) != want {
			t.Fatal("an answer's bytes are not its own")
		}
	}
	room[0] = 'H'
	if string(first) != want {
		t.Error("Put kept its frame's bytes")
	}
}
