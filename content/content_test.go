package content

import (
	"bytes"
	"strings"
	"testing"

	"carrefour/api"
	"carrefour/frame"
)

// calls are calls that have content, and their bytes, worked out by hand.
var calls = []struct {
	m api.Method
	b string
}{
	{api.Method{Id: api.Publish, Ex: "e", Key: "k"}, "\x00\x3c\x00\x28\x01e\x01k\x00"},
	{api.Method{Id: api.Publish, Flag: true}, "\x00\x3c\x00\x28\x00\x00\x01"},
	{api.Method{Id: api.Return, Code: 312, Text: "no", Ex: "e", Key: "k"}, "\x00\x3c\x00\x32\x01\x38\x02no\x01e\x01k"},
	{api.Method{Id: api.Deliver, Text: "t", Tag: 258, Flag: true, Ex: "e"}, "\x00\x3c\x00\x3c\x01t\x00\x00\x00\x00\x00\x00\x01\x02\x01\x01e\x00"},
	{api.Method{Id: api.GetOk, Tag: 1, Key: "k", Count: 7}, "\x00\x3c\x00\x47\x00\x00\x00\x00\x00\x00\x00\x01\x00\x00\x01k\x00\x00\x00\x07"},
}

// tables are props, and their bytes, worked out by hand.
var tables = []struct {
	l []api.Item
	b string
}{
	{nil, "\x00\x00\x00\x00"},
	{[]api.Item{}, "\x00\x00\x00\x00"},
	{[]api.Item{{Name: "p", V: api.Value{Kind: api.VBool, N: 1}}}, "\x00\x00\x00\x04\x01pt\x01"},
	{nested(), "\x00\x00\x00\x11\x01aV\x01bF\x00\x00\x00\x07\x01cI\xff\xff\xff\xfe"},
}

// nested is props of which one is a table. It is made anew each time.
func nested() []api.Item {
	return []api.Item{{Name: "a"}, {Name: "b", V: api.Value{Kind: api.VTable, Items: []api.Item{
		{Name: "c", V: api.Value{Kind: api.VInt, N: -2}}}}}}
}

// letters is a body of n bytes, each unlike its neighbours.
func letters(n int) []byte {
	b := make([]byte, n)
	for k := range b {
		b[k] = byte(k*7 + k>>8)
	}
	return b
}

// size8 is n as a header has it.
func size8(n int) string {
	return "\x00\x00\x00\x00\x00" + string([]byte{byte(n >> 16), byte(n >> 8), byte(n)})
}

// long is props of so many bytes in all, from 2,998 to 3,008.
func long(size int) []api.Item {
	var l []api.Item
	left := size - 4 - 15*7
	for k := range 15 {
		part := min(left, 200)
		l = append(l, api.Item{Name: string(rune('a' + k)), V: api.Value{Kind: api.VText, S: strings.Repeat("x", part)}})
		left -= part
	}
	return l
}

// expect asks that l is the frames of that channel whose Kinds and Data these are.
func expect(t *testing.T, l []api.Frame, channel int, kinds []int, data []string) {
	t.Helper()
	if len(l) != len(kinds) || len(l) != len(data) {
		t.Fatalf("%d frames, not %d", len(l), len(kinds))
	}
	for k, f := range l {
		if !frame.Same(f, api.Frame{Kind: kinds[k], Channel: channel, Data: []byte(data[k])}) {
			t.Fatalf("frame %d: %d, %d, %.80q, not %d, %d, %.80q", k, f.Kind, f.Channel, f.Data, kinds[k], channel, data[k])
		}
	}
}

// Promise 6.1, Cut: each call, each table, bodies below, at and above where they are cut.
func TestCut(t *testing.T) {
	for _, c := range calls {
		for _, p := range tables {
			for _, most := range []int{8, 9, 100, 4095, 4096} {
				for _, size := range []int{0, 1, most - 1, most, most + 1, 2*most - 1, 2 * most, 2*most + 1, 3*most + 5} {
					body := letters(size)
					kinds := []int{api.FMethod, api.FHeader}
					data := []string{c.b, size8(size) + p.b}
					for at := 0; at < size; at += most {
						kinds = append(kinds, api.FBody)
						data = append(data, string(body[at:min(at+most, size)]))
					}
					for _, channel := range []int{1, 2, 255, 256, 65535} {
						l, code := Cut(channel, c.m, p.l, body, most)
						if code != api.OK {
							t.Fatal(c.m.Id, most, size, code)
						}
						expect(t, l, channel, kinds, data)
					}
				}
			}
		}
	}
}

// Promise 6.1, Cut: the longest body; a body of nothing, nil or not.
func TestCutLimits(t *testing.T) {
	for _, x := range []struct{ size, most, frames, last int }{
		{65536, 4096, 18, 4096},
		{65535, 4096, 18, 4095},
		{65536, 8, 8194, 8},
		{65536, 4095, 19, 16},
	} {
		l, code := Cut(1, calls[0].m, nil, letters(x.size), x.most)
		if code != api.OK || len(l) != x.frames || string(l[1].Data) != size8(x.size)+"\x00\x00\x00\x00" || len(l[len(l)-1].Data) != x.last {
			t.Fatal(x, len(l), code)
		}
		var body []byte
		for _, f := range l[2:] {
			body = append(body, f.Data...)
		}
		if !bytes.Equal(body, letters(x.size)) {
			t.Error(x, "another body")
		}
	}
	for _, body := range [][]byte{nil, {}} {
		l, code := Cut(1, calls[0].m, nil, body, 8)
		if code != api.OK {
			t.Fatal(code)
		}
		expect(t, l, 1, []int{api.FMethod, api.FHeader}, []string{calls[0].b, size8(0) + "\x00\x00\x00\x00"})
	}
}

// Promise 6.1, Cut: the call and the header are as long as they are, whatever most is.
func TestCutLongHeads(t *testing.T) {
	s := strings.Repeat("x", 255)
	m := api.Method{Id: api.Return, Code: 65535, Text: s, Ex: s, Key: s}
	l, code := Cut(3, m, long(3000), []byte("0123456789"), 8)
	if code != api.OK || len(l) != 4 || len(l[0].Data) != 4+2+3*256 || len(l[1].Data) != 3008 || string(l[3].Data) != "89" {
		t.Fatal(len(l), code)
	}
	for k, f := range l {
		if !frame.May(f) || f.Channel != 3 {
			t.Error(k, f.Channel)
		}
	}
}

// twisted are props that may not be, and that hold themselves.
func twisted() []api.Item {
	l := []api.Item{{Name: "a", V: api.Value{Kind: api.VTable}}}
	l[0].V.Items = l
	return l
}

// Promise 6.1, Cut: what is refused; and what is refused first.
func TestCutNot(t *testing.T) {
	good := calls[0].m
	tooLong := letters(65537)
	for k, x := range []struct {
		channel int
		m       api.Method
		props   []api.Item
		body    []byte
		most    int
		code    int
	}{
		{0, good, nil, nil, 8, api.ErrArg},
		{-1, good, nil, nil, 8, api.ErrArg},
		{65536, good, nil, nil, 8, api.ErrArg},
		{1 << 40, good, nil, nil, 8, api.ErrArg},
		{-1 << 63, good, nil, nil, 8, api.ErrArg},
		{1, good, nil, nil, 7, api.ErrArg},
		{1, good, nil, nil, 0, api.ErrArg},
		{1, good, nil, letters(9), 0, api.ErrArg},
		{1, good, nil, letters(9), -8, api.ErrArg},
		{1, good, nil, nil, 4097, api.ErrArg},
		{1, good, nil, nil, 1<<63 - 1, api.ErrArg},
		{1, good, nil, tooLong, 8, api.ErrArg},
		{1, good, nil, tooLong, 4096, api.ErrArg},
		{1, api.Method{}, nil, nil, 8, api.ErrArg},
		{1, api.Method{Id: api.Publish, Tag: 1}, nil, nil, 8, api.ErrArg},
		{1, api.Method{Id: api.Publish, Args: nested()}, nil, nil, 8, api.ErrArg},
		{1, api.Method{Id: api.Publish, Args: twisted()}, nil, nil, 8, api.ErrArg},
		{1, api.Method{Id: api.Publish, Ex: strings.Repeat("x", 256)}, nil, nil, 8, api.ErrArg},
		{1, api.Method{Id: api.Return, Code: -1}, nil, nil, 8, api.ErrArg},
		{1, api.Method{Id: api.Return, Code: 65536}, nil, nil, 8, api.ErrArg},
		{1, api.Method{Id: api.GetOk, Count: 1 << 32}, nil, nil, 8, api.ErrArg},
		{1, api.Method{Id: api.Deliver, Back: true}, nil, nil, 8, api.ErrArg},
		{1, good, []api.Item{{}}, nil, 8, api.ErrArg},
		{1, good, []api.Item{{Name: "a"}, {Name: "a"}}, nil, 8, api.ErrArg},
		{1, good, twisted(), nil, 8, api.ErrArg},
		{1, good, append(long(3001), api.Item{}), nil, 8, api.ErrArg},
		{1, good, long(3001), nil, 8, api.SyntaxErr},
		{1, good, long(3008), letters(65536), 4096, api.SyntaxErr},
		{0, good, long(3001), nil, 8, api.ErrArg},
		{65536, good, long(3001), nil, 8, api.ErrArg},
		{1, good, long(3001), nil, 7, api.ErrArg},
		{1, good, long(3001), tooLong, 8, api.ErrArg},
		{1, api.Method{Id: api.Get}, long(3001), nil, 8, api.ErrArg},
		{1, api.Method{Id: api.Publish, Tag: 1}, long(3001), nil, 8, api.ErrArg},
	} {
		if l, code := Cut(x.channel, x.m, x.props, x.body, x.most); code != x.code || len(l) != 0 {
			t.Errorf("%d: %d frames, %d, not %d", k, len(l), code, x.code)
		}
	}
}

// Promise 6.1, Cut: of all methods four have content.
func TestCutMethods(t *testing.T) {
	n := 0
	for id := -300; id < 10000; id++ {
		l, code := Cut(1, api.Method{Id: id}, nil, []byte("x"), 8)
		switch id {
		case api.Publish, api.Return, api.Deliver, api.GetOk:
			n++
			if code != api.OK || len(l) != 3 {
				t.Error(id, len(l), code)
			}
		default:
			if code != api.ErrArg || len(l) != 0 {
				t.Error(id, len(l), code)
			}
		}
	}
	if n != 4 {
		t.Error(n)
	}
}

// Rules 2 and 3: what is handed in stays as it is, and the frames are the caller's own, each one's Data too.
func TestCutIsOwn(t *testing.T) {
	body, props := letters(40), nested()
	first, _ := Cut(1, calls[0].m, props, body, 8)
	second, _ := Cut(1, calls[0].m, props, body, 8)
	for k := range second {
		room := second[k].Data[:cap(second[k].Data)]
		for n := range room {
			room[n] = 0xee
		}
		for m := range second[:k] {
			second[m].Kind = 0
		}
		for m := k + 1; m < len(second); m++ {
			if !frame.Same(second[m], first[m]) {
				t.Fatal("frames", k, "and", m, "share memory")
			}
		}
	}
	if !bytes.Equal(body, letters(40)) {
		t.Error("the body is other now")
	}
	third, code := Cut(1, calls[0].m, nested(), letters(40), 8)
	if code != api.OK || len(third) != len(first) {
		t.Fatal(code)
	}
	clear(body)
	props[1].V.Items[0].Name = "z"
	for k := range third {
		if !frame.Same(first[k], third[k]) {
			t.Error("frame", k, "is other now")
		}
	}
}
