package content

import (
	"bytes"
	"strings"
	"testing"

	"carrefour/api"
	"carrefour/frame"
	"carrefour/method"
	"carrefour/value"
)

func of(kind, channel int, data string) api.Frame {
	return api.Frame{Kind: kind, Channel: channel, Data: []byte(data)}
}

// add asks that j answers so to f.
func add(t *testing.T, j *Join, f api.Frame, whole bool, code int) {
	t.Helper()
	if w, c := j.Add(f); w != whole || c != code {
		t.Fatalf("%d, %d, %.40q: %t, %d, not %t, %d", f.Kind, f.Channel, f.Data, w, c, whole, code)
	}
}

// parts asks that Done tells this message.
func parts(t *testing.T, j *Join, m api.Method, props []api.Item, body []byte) {
	t.Helper()
	gotM, gotProps, gotBody := j.Done()
	if !method.Same(gotM, m) || !value.Same(gotProps, props) || !bytes.Equal(gotBody, body) {
		t.Fatalf("%+v, %+v, %.40q, not %+v, %+v, %.40q", gotM, gotProps, gotBody, m, props, body)
	}
}

// none asks that Done tells nothing.
func none(t *testing.T, j *Join) {
	t.Helper()
	parts(t, j, api.Method{}, nil, nil)
}

// Promise 6.2: what Cut made is put together, message behind message; and 6.3: no part of one is told ahead.
func TestJoin(t *testing.T) {
	for _, channel := range []int{1, 7, 65535} {
		j := New(channel)
		none(t, j)
		for _, c := range calls {
			for _, p := range tables {
				for _, most := range []int{8, 9, 4096} {
					for _, size := range []int{65536, 0, 1, 7, 8, 9, 16, 17, 4096, 4097, 20000} {
						body := letters(size)
						l, code := Cut(channel, c.m, p.l, body, most)
						if code != api.OK {
							t.Fatal(code)
						}
						for k, f := range l {
							add(t, j, f, k == len(l)-1, api.OK)
							if k < 3 && k < len(l)-1 {
								none(t, j)
							}
						}
						parts(t, j, c.m, p.l, body)
						parts(t, j, c.m, p.l, body)
					}
				}
			}
		}
	}
}

// started is a join for channel 7 that has so much of a message of ten bytes: 0 nothing, 1 its call, 2 its header, 3
// four bytes of its body, 4 all.
func started(t *testing.T, much int) *Join {
	t.Helper()
	j := New(7)
	for k, f := range []api.Frame{
		of(api.FMethod, 7, calls[0].b),
		of(api.FHeader, 7, size8(10)+tables[2].b),
		of(api.FBody, 7, "0123"),
		of(api.FBody, 7, "456789"),
	} {
		if k < much {
			add(t, j, f, k == 3, api.OK)
		}
	}
	return j
}

// goesOn asks that j is as started made it.
func goesOn(t *testing.T, j *Join, much int) {
	t.Helper()
	for k, f := range []api.Frame{
		of(api.FMethod, 7, calls[0].b),
		of(api.FHeader, 7, size8(10)+tables[2].b),
		of(api.FBody, 7, "0123"),
		of(api.FBody, 7, "456789"),
	} {
		if k >= much {
			none(t, j)
			add(t, j, f, k == 3, api.OK)
		}
	}
	parts(t, j, calls[0].m, tables[2].l, []byte("0123456789"))
}

// forgot asks that j has nothing: only a call is next.
func forgot(t *testing.T, j *Join) {
	t.Helper()
	none(t, j)
	add(t, j, of(api.FBody, 7, "456789"), false, api.FrameErr)
	add(t, j, of(api.FHeader, 7, size8(10)+tables[2].b), false, api.FrameErr)
	none(t, j)
	goesOn(t, j, 0)
}

// Promise 6.2, Add: a beat, of whatever channel, and a frame of another channel change nothing, wherever they come.
func TestAddAside(t *testing.T) {
	for much := range 5 {
		for _, channel := range []int{0, 6, 7, 8, 65535, 65536, -1} {
			j := started(t, much)
			add(t, j, of(api.FBeat, channel, ""), false, api.OK)
			goesOn(t, j, much)
			j = started(t, much)
			add(t, j, of(api.FBeat, channel, "with Data"), false, api.OK)
			goesOn(t, j, much)
			if channel == 7 {
				continue
			}
			for _, f := range []api.Frame{
				of(api.FMethod, channel, calls[1].b),
				of(api.FMethod, channel, "\x00"),
				of(api.FMethod, channel, "\x00\x14\x00\x0a"),
				of(api.FHeader, channel, size8(3)+tables[0].b),
				of(api.FHeader, channel, ""),
				of(api.FBody, channel, "x"),
				of(api.FBody, channel, ""),
				of(api.FBody, channel, "0123456789abcdef"),
				of(0, channel, ""),
				of(9, channel, "x"),
			} {
				j = started(t, much)
				add(t, j, f, false, api.ChannelBad)
				goesOn(t, j, much)
			}
		}
	}
}

// refusedAs are frames of channel 7, and the codes that they are refused with where a call, a header, a body (of ten
// bytes, or of six that are left) is next.
var refusedAs = []struct {
	f                        api.Frame
	atCall, atHeader, atBody int
}{
	{f: of(api.FMethod, 7, calls[0].b), atHeader: api.FrameErr, atBody: api.FrameErr},
	{f: of(api.FMethod, 7, ""), atCall: api.SyntaxErr, atHeader: api.FrameErr, atBody: api.FrameErr},
	{f: of(api.FMethod, 7, "\x00\x3c\x00"), atCall: api.SyntaxErr, atHeader: api.FrameErr, atBody: api.FrameErr},
	{f: of(api.FMethod, 7, calls[0].b+"\x00"), atCall: api.SyntaxErr, atHeader: api.FrameErr, atBody: api.FrameErr},
	{f: of(api.FMethod, 7, calls[0].b[:8]), atCall: api.SyntaxErr, atHeader: api.FrameErr, atBody: api.FrameErr},
	{f: of(api.FMethod, 7, "\x00\x00\x00\x00"), atCall: api.CommandBad, atHeader: api.FrameErr, atBody: api.FrameErr},
	{f: of(api.FMethod, 7, "\x00\x14\x00\x0a"), atCall: api.CommandBad, atHeader: api.FrameErr, atBody: api.FrameErr},
	{f: of(api.FMethod, 7, "\x00\x14\x00\x0ax"), atCall: api.SyntaxErr, atHeader: api.FrameErr, atBody: api.FrameErr},
	{f: of(api.FMethod, 7, "\x00\x3c\x00\x46\x01q"), atCall: api.CommandBad, atHeader: api.FrameErr, atBody: api.FrameErr},
	{f: of(api.FHeader, 7, size8(3)+tables[0].b), atCall: api.FrameErr, atBody: api.FrameErr},
	{f: of(api.FHeader, 7, size8(65536)+tables[2].b), atCall: api.FrameErr, atBody: api.FrameErr},
	{f: of(api.FHeader, 7, ""), atCall: api.FrameErr, atHeader: api.SyntaxErr, atBody: api.FrameErr},
	{f: of(api.FHeader, 7, size8(3)), atCall: api.FrameErr, atHeader: api.SyntaxErr, atBody: api.FrameErr},
	{f: of(api.FHeader, 7, size8(65537)+tables[0].b), atCall: api.FrameErr, atHeader: api.SyntaxErr, atBody: api.FrameErr},
	{f: of(api.FBody, 7, ""), atCall: api.FrameErr, atHeader: api.FrameErr, atBody: api.FrameErr},
	{f: of(api.FBody, 7, "x"), atCall: api.FrameErr, atHeader: api.FrameErr},
	{f: of(api.FBody, 7, "0123456789a"), atCall: api.FrameErr, atHeader: api.FrameErr, atBody: api.FrameErr},
	{f: of(0, 7, ""), atCall: api.FrameErr, atHeader: api.FrameErr, atBody: api.FrameErr},
	{f: of(-1, 7, "x"), atCall: api.FrameErr, atHeader: api.FrameErr, atBody: api.FrameErr},
	{f: of(4, 7, "x"), atCall: api.FrameErr, atHeader: api.FrameErr, atBody: api.FrameErr},
	{f: of(9, 7, "x"), atCall: api.FrameErr, atHeader: api.FrameErr, atBody: api.FrameErr},
	{f: of(256+api.FMethod, 7, calls[0].b), atCall: api.FrameErr, atHeader: api.FrameErr, atBody: api.FrameErr},
}

// Promise 6.2, Add: what is not next, and what its bytes don't let it be; all is forgotten then.
func TestAddNot(t *testing.T) {
	for _, x := range refusedAs {
		for much, code := range []int{x.atCall, x.atHeader, x.atBody, x.atBody, x.atCall} {
			j := started(t, much)
			add(t, j, x.f, false, code)
			none(t, j)
			if code != api.OK {
				forgot(t, j)
			}
		}
	}
}

// withHeader is a join for channel 7 that awaits a body of so many bytes.
func withHeader(t *testing.T, size int) *Join {
	t.Helper()
	j := New(7)
	add(t, j, of(api.FMethod, 7, calls[3].b), false, api.OK)
	add(t, j, of(api.FHeader, 7, size8(size)+tables[3].b), false, api.OK)
	return j
}

// Promise 6.2, Add: a body's bytes are counted: all that are left, and not one more, however they are cut.
func TestAddBody(t *testing.T) {
	for size := 1; size <= 12; size++ {
		for first := 0; first <= 13; first++ {
			piece := of(api.FBody, 7, string(letters(13)[:first]))
			if first == 0 || first > size {
				j := withHeader(t, size)
				add(t, j, piece, false, api.FrameErr)
				forgot(t, j)
				continue
			}
			j := withHeader(t, size)
			add(t, j, piece, first == size, api.OK)
			if first < size {
				add(t, j, of(api.FBody, 7, string(letters(13)[first:size])), true, api.OK)
			}
			parts(t, j, calls[3].m, nested(), letters(size))
			add(t, j, of(api.FBody, 7, "x"), false, api.FrameErr)
			forgot(t, j)
			if first < size {
				j = withHeader(t, size)
				add(t, j, piece, false, api.OK)
				add(t, j, of(api.FBody, 7, string(letters(14)[first:size+1])), false, api.FrameErr)
				forgot(t, j)
			}
		}
	}
}

// Promise 6.2, Add: the longest body, a byte at a time; and one of nothing, whole with its header.
func TestAddLimits(t *testing.T) {
	j := New(7)
	add(t, j, of(api.FMethod, 7, calls[0].b), false, api.OK)
	add(t, j, of(api.FHeader, 7, size8(65536)+tables[0].b), false, api.OK)
	body := letters(65536)
	for k := range body {
		add(t, j, api.Frame{Kind: api.FBody, Channel: 7, Data: body[k : k+1]}, k == 65535, api.OK)
	}
	parts(t, j, calls[0].m, nil, body)
	for range 2 {
		add(t, j, of(api.FMethod, 7, calls[1].b), false, api.OK)
		none(t, j)
		add(t, j, of(api.FHeader, 7, size8(0)+tables[2].b), true, api.OK)
		parts(t, j, calls[1].m, tables[2].l, nil)
	}
}

// Promise 6.2, Add: bytes that no header is.
func TestAddNoHeader(t *testing.T) {
	bad := []string{
		"\x00\x00\x00\x00\x00\x01\x00\x01\x00\x00\x00\x00",
		"\x00\x00\x00\x00\x00\x02\x00\x00\x00\x00\x00\x00",
		"\x00\x00\x00\x00\xff\xff\xff\xff\x00\x00\x00\x00",
		"\x00\x00\x00\x01\x00\x00\x00\x00\x00\x00\x00\x00",
		"\x00\x00\x00\x01\x00\x00\x00\x05\x00\x00\x00\x00",
		"\x01\x00\x00\x00\x00\x00\x00\x00\x00\x00\x00\x00",
		"\x80\x00\x00\x00\x00\x00\x00\x00\x00\x00\x00\x00",
		"\xff\xff\xff\xff\xff\xff\xff\xff\x00\x00\x00\x00",
		"\x00\x00\x00\x00",
		"\x00\x00\x00\x00\x00\x00\x00",
		size8(1) + "\x00\x00\x00\x01\x00",
		size8(1) + "\x00\x00\x00\x03\x00aV",
		size8(1) + "\x00\x00\x00\x04\x01at\x02",
		size8(1) + "\x00\x00\x00\x06\x01aV\x01aV",
		size8(1) + strings.Repeat("\x00", 5000),
		size8(65537) + "\x00\x00\x00\x01\x00",
	}
	for _, p := range tables {
		whole := size8(5) + p.b
		for n := range whole {
			bad = append(bad, whole[:n])
		}
		bad = append(bad, whole+"\x00", whole+whole, p.b)
	}
	for _, s := range bad {
		j := started(t, 1)
		add(t, j, of(api.FHeader, 7, s), false, api.SyntaxErr)
		forgot(t, j)
	}
	for _, size := range []int{2999, 3000, 3001, 3008} {
		table := ""
		for _, x := range long(size) {
			table += "\x01" + x.Name + "S\x00\x00\x00" + string([]byte{byte(len(x.V.S))}) + x.V.S
		}
		table = "\x00\x00" + string([]byte{byte(len(table) >> 8), byte(len(table))}) + table
		j := started(t, 1)
		if size > 3000 {
			add(t, j, of(api.FHeader, 7, size8(0)+table), false, api.SyntaxErr)
			forgot(t, j)
			continue
		}
		add(t, j, of(api.FHeader, 7, size8(0)+table), true, api.OK)
		parts(t, j, calls[0].m, long(size), nil)
	}
}

// Promise 6.2, Add: with any one byte of a header changed: it is one, or it is not.
func TestAddHeaderChanged(t *testing.T) {
	taken, refused := 0, 0
	for _, p := range tables {
		whole := size8(258) + p.b
		for n := range whole {
			for c := range 256 {
				b := []byte(whole)
				b[n] = byte(c)
				size := 0
				for _, x := range b[:8] {
					size = size<<8 | int(x)
				}
				props, code := value.Get(b[8:])
				j := started(t, 1)
				if code != api.OK || size < 0 || size > 65536 {
					refused++
					add(t, j, of(api.FHeader, 7, string(b)), false, api.SyntaxErr)
					continue
				}
				taken++
				add(t, j, of(api.FHeader, 7, string(b)), size == 0, api.OK)
				if size > 0 {
					add(t, j, of(api.FBody, 7, string(letters(size))), true, api.OK)
				}
				parts(t, j, calls[0].m, props, letters(size))
			}
		}
	}
	if taken == 0 || refused == 0 {
		t.Error(taken, refused)
	}
}

// Promise 6.2, Add: of all calls four begin a message.
func TestAddMethods(t *testing.T) {
	n := 0
	for id := range 10000 {
		b, code := method.Put(api.Method{Id: id})
		if code != api.OK {
			continue
		}
		n++
		j := New(7)
		switch id {
		case api.Publish, api.Return, api.Deliver, api.GetOk:
			add(t, j, of(api.FMethod, 7, string(b)), false, api.OK)
			add(t, j, of(api.FHeader, 7, size8(0)+tables[0].b), true, api.OK)
			parts(t, j, api.Method{Id: id}, nil, nil)
		default:
			add(t, j, of(api.FMethod, 7, string(b)), false, api.CommandBad)
			forgot(t, j)
		}
	}
	if n != 31 {
		t.Error(n, "methods")
	}
}

// Promise 6.2: of nil; and a join for a channel that no frame may have is one all the same.
func TestJoinOfNil(t *testing.T) {
	var nobody *Join
	for _, f := range []api.Frame{{}, of(api.FMethod, 7, calls[0].b), of(api.FBeat, 0, ""), of(api.FBody, 0, "x")} {
		add(t, nobody, f, false, api.ErrState)
	}
	none(t, nobody)
	for _, channel := range []int{0, -1, 65536, 1<<63 - 1, -1 << 63} {
		j := New(channel)
		none(t, j)
		add(t, j, of(api.FMethod, 7, calls[0].b), false, api.ChannelBad)
		add(t, j, of(api.FBody, channel, "x"), false, api.FrameErr)
		add(t, j, of(api.FBeat, 7, ""), false, api.OK)
		none(t, j)
	}
	a, b := New(7), New(7)
	add(t, a, of(api.FMethod, 7, calls[0].b), false, api.OK)
	add(t, b, of(api.FHeader, 7, size8(0)+tables[0].b), false, api.FrameErr)
	add(t, a, of(api.FHeader, 7, size8(0)+tables[0].b), true, api.OK)
	none(t, b)
}

// Rule 2: what is handed in is not kept and not changed; what is answered is the caller's own.
func TestJoinIsOwn(t *testing.T) {
	j := New(7)
	l, _ := Cut(7, calls[3].m, nested(), letters(20), 8)
	for _, f := range l {
		was := string(f.Data)
		j.Add(f)
		if string(f.Data) != was {
			t.Error("a frame is other now")
		}
		clear(f.Data)
	}
	parts(t, j, calls[3].m, nested(), letters(20))
	_, props, body := j.Done()
	props[0].Name, props[1].V.Items[0].Name = "y", "z"
	clear(body)
	_ = append(body, "and more"...)
	parts(t, j, calls[3].m, nested(), letters(20))
	_, props, body = j.Done()
	add(t, j, of(api.FMethod, 7, calls[0].b), false, api.OK)
	add(t, j, of(api.FHeader, 7, size8(20)+tables[2].b), false, api.OK)
	add(t, j, of(api.FBody, 7, strings.Repeat("x", 20)), true, api.OK)
	if !value.Same(props, nested()) || !bytes.Equal(body, letters(20)) {
		t.Error("what was answered is other now")
	}
	room := []byte("0123456789")
	j = started(t, 2)
	add(t, j, api.Frame{Kind: api.FBody, Channel: 7, Data: room[:4]}, false, api.OK)
	add(t, j, of(api.FBody, 7, "abcdef"), true, api.OK)
	if string(room) != "0123456789" {
		t.Error("the room behind the bytes is the caller's")
	}
}

// told is what chapter 6 says of frames for channel 7, by the words for them: those that came since a call was next.
type told struct {
	ahead []api.Frame
	whole bool
}

// add is what is to be answered to f, and what came in all then.
func (w told) add(f api.Frame) (told, bool, int) {
	if f.Kind == api.FBeat {
		return w, false, api.OK
	}
	if f.Channel != 7 {
		return w, false, api.ChannelBad
	}
	if w.whole {
		w = told{}
	}
	all := append(append([]api.Frame{}, w.ahead...), f)
	for k, x := range all {
		if x.Kind != []int{api.FMethod, api.FHeader, api.FBody}[min(k, 2)] {
			return told{}, false, api.FrameErr
		}
	}
	m, code := method.Get(all[0].Data)
	if code != api.OK {
		return told{}, false, code
	}
	if m.Id != api.Publish && m.Id != api.Return && m.Id != api.Deliver && m.Id != api.GetOk {
		return told{}, false, api.CommandBad
	}
	if len(all) == 1 {
		return told{ahead: all}, false, api.OK
	}
	left, head := 0, all[1].Data
	if len(head) < 12 {
		return told{}, false, api.SyntaxErr
	}
	for _, x := range head[:8] {
		left = left<<8 | int(x)
	}
	if _, code := value.Get(head[8:]); code != api.OK || left > 65536 {
		return told{}, false, api.SyntaxErr
	}
	for _, x := range all[2:] {
		if left -= len(x.Data); left < 0 || len(x.Data) == 0 {
			return told{}, false, api.FrameErr
		}
	}
	return told{all, left == 0}, left == 0, api.OK
}

// Promises 6.2 and 6.3: frames in many orders: each answer, and a message whole or none.
func TestManyOrders(t *testing.T) {
	var pool []api.Frame
	for _, x := range refusedAs {
		pool = append(pool, x.f)
	}
	pool = append(pool, of(api.FMethod, 7, calls[2].b), of(api.FHeader, 7, size8(0)+tables[3].b),
		of(api.FHeader, 7, size8(5)+tables[3].b), of(api.FBody, 7, "ab"), of(api.FBody, 7, "abc"), of(api.FBeat, 0, ""),
		of(api.FBody, 6, "a"), of(api.FMethod, 8, calls[2].b))
	likely := map[int][]int{}
	for k, f := range pool {
		likely[f.Kind] = append(likely[f.Kind], k)
	}
	s := uint64(1)
	below := func(n int) int {
		s = s*6364136223846793005 + 1442695040888963407
		return int(s>>33) % n
	}
	j, w := New(7), told{}
	met := map[int]int{}
	for range 200_000 {
		f := pool[below(len(pool))]
		if below(4) > 0 {
			kind := []int{api.FMethod, api.FHeader, api.FBody}[min(len(w.ahead), 2)]
			if w.whole {
				kind = api.FMethod
			}
			f = pool[likely[kind][below(len(likely[kind]))]]
		}
		next, whole, code := w.add(f)
		add(t, j, f, whole, code)
		w = next
		met[code]++
		if !w.whole {
			none(t, j)
			continue
		}
		met[-1]++
		m, _ := method.Get(w.ahead[0].Data)
		props, _ := value.Get(w.ahead[1].Data[8:])
		var body []byte
		for _, x := range w.ahead[2:] {
			body = append(body, x.Data...)
		}
		parts(t, j, m, props, body)
	}
	for _, code := range []int{-1, api.OK, api.ChannelBad, api.FrameErr, api.SyntaxErr, api.CommandBad} {
		if met[code] < 500 {
			t.Error(code, met[code])
		}
	}
}

// Promise 6.3: through the wire in pieces, beats and another channel's messages between: each comes whole.
func TestThroughTheWire(t *testing.T) {
	for most := 8; most < 40; most++ {
		for _, channels := range [][2]int{{1, 2}, {65535, 1}} {
			here, _ := Cut(channels[0], calls[3].m, nested(), letters(100), most)
			there, _ := Cut(channels[1], calls[2].m, nil, letters(61), most)
			var wire []byte
			for k := range max(len(here), len(there)) {
				for _, l := range [][]api.Frame{here, there, {of(api.FBeat, 0, "")}} {
					if k < len(l) {
						b, code := frame.Put(l[k])
						if code != api.OK {
							t.Fatal(code)
						}
						wire = append(wire, b...)
					}
				}
			}
			one, two := New(channels[0]), New(channels[1])
			l, n, code := frame.All(wire)
			if code != api.OK || n != len(wire) || len(l) != len(here)+len(there)+1 {
				t.Fatal(len(l), n, code)
			}
			for _, f := range l {
				for _, j := range []*Join{one, two} {
					if _, code := j.Add(f); code != api.OK && code != api.ChannelBad {
						t.Fatal(code)
					}
				}
			}
			parts(t, one, calls[3].m, nested(), letters(100))
			parts(t, two, calls[2].m, nil, letters(61))
		}
	}
}
