package method

import (
	"strings"
	"testing"

	"carrefour/api"
	"carrefour/value"
)

// wires are calls and their bytes, worked out by hand: all methods, the greatest parts, the least.
var wires = []struct {
	m api.Method
	b string
}{
	{api.Method{Id: api.ChanOpen}, "\x00\x14\x00\x0a"},
	{api.Method{Id: api.ChanOpenOk}, "\x00\x14\x00\x0b"},
	{api.Method{Id: api.ChanClose}, "\x00\x14\x00\x28\x00\x00\x00"},
	{api.Method{Id: api.ChanClose, Code: 504, Text: "not open"}, "\x00\x14\x00\x28\x01\xf8\x08not open"},
	{api.Method{Id: api.ChanClose, Code: 65535, Text: "\xff\x00"}, "\x00\x14\x00\x28\xff\xff\x02\xff\x00"},
	{api.Method{Id: api.ChanCloseOk}, "\x00\x14\x00\x29"},
	{api.Method{Id: api.ExDeclare, Name: "ex", Type: "fanout"}, "\x00\x28\x00\x0a\x02ex\x06fanout"},
	{api.Method{Id: api.ExDeclareOk}, "\x00\x28\x00\x0b"},
	{api.Method{Id: api.QDeclare}, "\x00\x32\x00\x0a\x00"},
	{api.Method{Id: api.QDeclare, Name: "queue"}, "\x00\x32\x00\x0a\x05queue"},
	{api.Method{Id: api.QDeclareOk, Name: "q", Count: 0x01020304}, "\x00\x32\x00\x0b\x01q\x01\x02\x03\x04"},
	{api.Method{Id: api.QBind}, "\x00\x32\x00\x14\x00\x00\x00\x00\x00\x00\x00"},
	{api.Method{Id: api.QBind, Name: "n", Ex: "e", Key: "a.*", Args: []api.Item{}}, "\x00\x32\x00\x14\x01n\x01e\x03a.*\x00\x00\x00\x00"},
	{api.Method{Id: api.QBind, Key: "k", Args: []api.Item{{Name: "w", V: api.Value{Kind: api.VInt, N: 4}}, {Name: "v"}}}, "\x00\x32\x00\x14\x00\x00\x01k\x00\x00\x00\x0a\x01wI\x00\x00\x00\x04\x01vV"},
	{api.Method{Id: api.QBindOk}, "\x00\x32\x00\x15"},
	{api.Method{Id: api.Qos, Count: 1}, "\x00\x3c\x00\x0a\x00\x00\x00\x01"},
	{api.Method{Id: api.Qos, Count: 1<<32 - 1}, "\x00\x3c\x00\x0a\xff\xff\xff\xff"},
	{api.Method{Id: api.QosOk}, "\x00\x3c\x00\x0b"},
	{api.Method{Id: api.Consume, Name: "q", Text: "tag"}, "\x00\x3c\x00\x14\x01q\x03tag"},
	{api.Method{Id: api.ConsumeOk, Text: "tag"}, "\x00\x3c\x00\x15\x03tag"},
	{api.Method{Id: api.Publish, Ex: "e", Key: "k"}, "\x00\x3c\x00\x28\x01e\x01k\x00"},
	{api.Method{Id: api.Publish, Ex: "e", Flag: true}, "\x00\x3c\x00\x28\x01e\x00\x01"},
	{api.Method{Id: api.Return, Code: 312, Text: "no route", Ex: "e", Key: "k"}, "\x00\x3c\x00\x32\x01\x38\x08no route\x01e\x01k"},
	{api.Method{Id: api.Deliver, Text: "t", Tag: 0x0102030405060708, Ex: "e", Key: "kk"}, "\x00\x3c\x00\x3c\x01t\x01\x02\x03\x04\x05\x06\x07\x08\x00\x01e\x02kk"},
	{api.Method{Id: api.Deliver, Tag: 1<<64 - 1, Flag: true}, "\x00\x3c\x00\x3c\x00\xff\xff\xff\xff\xff\xff\xff\xff\x01\x00\x00"},
	{api.Method{Id: api.Get, Name: "q"}, "\x00\x3c\x00\x46\x01q"},
	{api.Method{Id: api.GetOk, Tag: 1, Flag: true, Ex: "e", Key: "k", Count: 256}, "\x00\x3c\x00\x47\x00\x00\x00\x00\x00\x00\x00\x01\x01\x01e\x01k\x00\x00\x01\x00"},
	{api.Method{Id: api.GetEmpty}, "\x00\x3c\x00\x48"},
	{api.Method{Id: api.Ack, Tag: 258, Flag: true}, "\x00\x3c\x00\x50\x00\x00\x00\x00\x00\x00\x01\x02\x01"},
	{api.Method{Id: api.Reject, Tag: 1 << 63}, "\x00\x3c\x00\x5a\x80\x00\x00\x00\x00\x00\x00\x00\x00"},
	{api.Method{Id: api.Nack, Tag: 7, Flag: true}, "\x00\x3d\x00\x14\x00\x00\x00\x00\x00\x00\x00\x07\x01\x00"},
	{api.Method{Id: api.Nack, Tag: 7, Back: true}, "\x00\x3d\x00\x14\x00\x00\x00\x00\x00\x00\x00\x07\x00\x01"},
	{api.Method{Id: api.Select}, "\x00\x55\x00\x0a"},
	{api.Method{Id: api.SelectOk}, "\x00\x55\x00\x0b"},
	{api.Method{Id: api.TxSelect}, "\x00\x5a\x00\x0a"},
	{api.Method{Id: api.TxSelectOk}, "\x00\x5a\x00\x0b"},
	{api.Method{Id: api.TxCommit}, "\x00\x5a\x00\x14"},
	{api.Method{Id: api.TxCommitOk}, "\x00\x5a\x00\x15"},
	{api.Method{Id: api.TxRollback}, "\x00\x5a\x00\x1e"},
	{api.Method{Id: api.TxRollOk}, "\x00\x5a\x00\x1f"},
	{api.Method{Id: api.ExDeclare, Name: strings.Repeat("n", 255), Type: strings.Repeat("\xff", 128)}, "\x00\x28\x00\x0a\xff" + strings.Repeat("n", 255) + "\x80" + strings.Repeat("\xff", 128)},
}

// long is a table of so many bytes in all, from 2,998 to 3,008.
func long(size int) []api.Item {
	l := many(15)
	left := size - 4 - 15*7
	for k := range l {
		part := min(left, 200)
		l[k].V = api.Value{Kind: api.VText, S: strings.Repeat("x", part)}
		left -= part
	}
	return l
}

// Promise 5.2, Put and Get.
func TestWires(t *testing.T) {
	met := map[int]struct{}{}
	for k, x := range wires {
		met[x.m.Id] = struct{}{}
		if b, code := Put(x.m); code != api.OK || string(b) != x.b {
			t.Errorf("%d: %.80q, %d, not %.80q", k, b, code, x.b)
		}
		b := []byte(x.b)
		if m, code := Get(b); code != api.OK || !Same(m, x.m) {
			t.Errorf("%d: %+v, %d", k, m, code)
		}
		if string(b) != x.b {
			t.Errorf("%d: the bytes are others now", k)
		}
	}
	if len(met) != len(methods) {
		t.Error(len(met), "methods")
	}
}

// Promise 5.2, Put: Args of too many bytes: value.Put's error; and ErrArg ahead of it.
func TestPutLong(t *testing.T) {
	for _, size := range []int{2999, 3000, 3001, 3008} {
		m := api.Method{Id: api.QBind, Name: "n", Args: long(size)}
		b, code := Put(m)
		if !May(m) || size <= 3000 && (code != api.OK || len(b) != size+8) || size > 3000 && (code != api.SyntaxErr || len(b) != 0) {
			t.Errorf("of %d: %d bytes, %d", size, len(b), code)
		}
		if back, code := Get(b); size <= 3000 && (code != api.OK || !Same(back, m)) {
			t.Errorf("of %d: back, %d", size, code)
		}
		for k, not := range []api.Method{
			{Id: api.QBind, Name: strings.Repeat("x", 256), Args: long(size)},
			{Id: api.QBind, Text: "x", Args: long(size)},
			{Id: api.QBind, Args: append(long(size), api.Item{})},
			{Id: api.Publish, Args: long(size)},
			{Id: api.QBindOk, Args: long(size)},
			{Id: 5022, Args: long(size)},
		} {
			if b, code := Put(not); code != api.ErrArg || len(b) != 0 {
				t.Errorf("%d, of %d: %d bytes, %d", k, size, len(b), code)
			}
		}
	}
}

// zero tells whether nothing is in m.
func zero(m api.Method) bool { return Same(m, api.Method{}) }

// refused asks that Get's code of b is this one.
func refused(t *testing.T, b string, want int) {
	t.Helper()
	if m, code := Get([]byte(b)); code != want || !zero(m) {
		t.Errorf("%.80q: %d, not %d; %+v", b, code, want, m)
	}
}

// Promise 5.2, Get: what is cut, or goes on, is none, be it by one byte or by many.
func TestGetCut(t *testing.T) {
	if m, code := Get(nil); code != api.SyntaxErr || !zero(m) {
		t.Error("of nil", code)
	}
	for _, x := range wires {
		for n := range len(x.b) {
			refused(t, x.b[:n], api.SyntaxErr)
		}
		for c := range 256 {
			refused(t, x.b+string([]byte{byte(c)}), api.SyntaxErr)
		}
		refused(t, x.b+x.b, api.SyntaxErr)
		refused(t, x.b+"\x00\x00\x00\x00", api.SyntaxErr)
		refused(t, x.b+strings.Repeat("\x00", 5000), api.SyntaxErr)
	}
}

// Promise 5.2, Get: CommandBad of a class and method that are none, whatever stands behind; not of fewer bytes.
func TestGetNoMethod(t *testing.T) {
	heads := map[[2]int]struct{}{}
	for _, x := range wires {
		heads[[2]int{int(x.b[0])<<8 | int(x.b[1]), int(x.b[2])<<8 | int(x.b[3])}] = struct{}{}
	}
	head := func(class, method int) string {
		return string([]byte{byte(class >> 8), byte(class), byte(method >> 8), byte(method)})
	}
	none := func(class, method int) {
		if _, ok := heads[[2]int{class, method}]; ok {
			return
		}
		s := head(class, method)
		refused(t, s, api.CommandBad)
		refused(t, s[:3], api.SyntaxErr)
		refused(t, s[:1], api.SyntaxErr)
		for _, more := range []string{"\x00", "\x01q", "\x00\x00\x00\x00", "\x00\x00\x00\x00\x00\x00\x00\x00\x00"} {
			refused(t, s+more, api.CommandBad)
		}
	}
	for class := range 200 {
		for method := range 300 {
			none(class, method)
		}
		for _, method := range []int{2010, 8510, 9999, 256 * 10, 65535 - 55, 65535} {
			none(class, method)
		}
	}
	for _, x := range methods {
		class, method := x.id/100, x.id%100
		for k := 1; class-k >= 0 && k < 656; k++ {
			none(class-k, method+100*k)
		}
		for _, far := range []int{1, 256, 512, 0x8000, 0xff00} {
			none(class+far, method)
			none(class, method+far)
			none(class+far, method+far)
		}
		none(method, class)
		none(0, x.id)
		none(x.id, 0)
		none(65535, method)
	}
}

// Promise 5.2, Get: bytes that no Put makes, of each kind of part.
func TestGetNot(t *testing.T) {
	for _, s := range []string{
		"\x00\x14\x00\x28\x00\x00\x01",
		"\x00\x14\x00\x28\x00\x00\xff" + strings.Repeat("x", 254),
		"\x00\x14\x00\x28\x00\x00\x00\x00",
		"\x00\x28\x00\x0a\x02a\x00",
		"\x00\x32\x00\x0a\x05quee",
		"\x00\x32\x00\x0a\x00q",
		"\x00\x3c\x00\x0a\x00\x00\x01",
		"\x00\x3c\x00\x0a\x00\x00\x00\x00\x01",
		"\x00\x3c\x00\x50\x00\x00\x00\x00\x00\x00\x01\x00",
		"\x00\x3c\x00\x28\x00\x00",
		"\x00\x32\x00\x14\x00\x00\x00",
		"\x00\x32\x00\x14\x00\x00\x00\x00\x00\x00",
		"\x00\x32\x00\x14\x00\x00\x00\x00\x00\x00\x01",
		"\x00\x32\x00\x14\x00\x00\x00\x00\x00\x00\x00\x00",
		"\x00\x32\x00\x14\x00\x00\x00\x00\x00\x00\x03\x00aV",
		"\x00\x32\x00\x14\x00\x00\x00\x00\x00\x00\x03\x01aX",
		"\x00\x32\x00\x14\x00\x00\x00\x00\x00\x00\x04\x01at\x02",
		"\x00\x32\x00\x14\x00\x00\x00\x00\x00\x00\x06\x01aV\x01aV",
		"\x00\x32\x00\x14\x00\x00\x00\xff\xff\xff\xff\x01aV",
		"\x00\x32\x00\x14\x00\x00\xff\x00\x00\x00\x00",
	} {
		refused(t, s, api.SyntaxErr)
	}
	for c := 2; c < 256; c++ {
		flag, tag := string([]byte{byte(c)}), "\x00\x00\x00\x00\x00\x00\x00\x01"
		refused(t, "\x00\x3c\x00\x28\x00\x01q"+flag, api.SyntaxErr)
		refused(t, "\x00\x3c\x00\x3c\x00"+tag+flag+"\x00\x00", api.SyntaxErr)
		refused(t, "\x00\x3c\x00\x47"+tag+flag+"\x00\x00\x00\x00\x00\x00", api.SyntaxErr)
		refused(t, "\x00\x3c\x00\x50"+tag+flag, api.SyntaxErr)
		refused(t, "\x00\x3c\x00\x5a"+tag+flag, api.SyntaxErr)
		refused(t, "\x00\x3d\x00\x14"+tag+flag+"\x00", api.SyntaxErr)
		refused(t, "\x00\x3d\x00\x14"+tag+"\x01"+flag, api.SyntaxErr)
	}
}

// Promise 5.2, Get: Args of more bytes than value.Put makes, in their shape.
func TestGetLong(t *testing.T) {
	for _, size := range []int{2999, 3000, 3001, 3008} {
		s := ""
		for _, x := range long(size) {
			s += "\x01" + x.Name + "S\x00\x00\x00" + string([]byte{byte(len(x.V.S))}) + x.V.S
		}
		s = "\x00\x32\x00\x14\x01n\x00\x00\x00\x00" + string([]byte{byte(len(s) >> 8), byte(len(s))}) + s
		if len(s) != size+8 {
			t.Fatal(len(s), size)
		}
		if size > 3000 {
			refused(t, s, api.SyntaxErr)
		} else if m, code := Get([]byte(s)); code != api.OK || !Same(m, api.Method{Id: api.QBind, Name: "n", Args: long(size)}) {
			t.Error(size, code)
		}
	}
}

// judged is what chapter 5 says of b, part by part.
func judged(b string) int {
	if len(b) < 4 {
		return api.SyntaxErr
	}
	for _, x := range methods {
		if b[:4] == string([]byte{0, byte(x.id / 100), 0, byte(x.id % 100)}) {
			return judgedParts(b[4:], x.parts)
		}
	}
	return api.CommandBad
}

func judgedParts(b, parts string) int {
	for _, letter := range []byte(parts) {
		size := map[byte]int{'c': 2, 'u': 4, 't': 8}[letter]
		switch {
		case letter == 'a':
			_, code := value.Get([]byte(b))
			return code
		case size > 0:
		case len(b) == 0:
			return api.SyntaxErr
		case letter == 'f' || letter == 'b':
			if size = 1; b[0] > 1 {
				return api.SyntaxErr
			}
		default:
			size = 1 + int(b[0])
		}
		if len(b) < size {
			return api.SyntaxErr
		}
		b = b[size:]
	}
	if b != "" {
		return api.SyntaxErr
	}
	return api.OK
}

// Promise 5.2, Get: with any one byte changed, and one more or less at the end; what is taken, Put makes.
func TestGetChanged(t *testing.T) {
	met := map[int]int{}
	for _, x := range wires[:40] {
		for n := range len(x.b) {
			for c := range 256 {
				whole := []byte(x.b + "\x00")
				whole[n] = byte(c)
				for size := len(x.b) - 1; size <= len(x.b)+1; size++ {
					b := whole[:size]
					m, code := Get(b)
					if want := judged(string(b)); code != want || code != api.OK && !zero(m) {
						t.Fatalf("%q: %d, not %d", b, code, want)
					}
					met[code]++
					if again, put := Put(m); code == api.OK && (put != api.OK || string(again) != string(b)) {
						t.Fatalf("%q: put again it is %q", b, again)
					}
				}
			}
		}
	}
	if met[api.OK] == 0 || met[api.SyntaxErr] == 0 || met[api.CommandBad] == 0 || len(met) != 3 {
		t.Error(met)
	}
}

// Rule 2: what is answered is the caller's own.
func TestWireIsOwn(t *testing.T) {
	m := full(api.QBind, "neka")
	first, _ := Put(m)
	want := string(first)
	second, _ := Put(m)
	clear(second[:cap(second)])
	if string(first) != want || !Same(m, full(api.QBind, "neka")) {
		t.Error("Put's bytes are not its own")
	}
	one, _ := Get(first)
	other, _ := Get(first)
	clear(first)
	other.Args[0].Name, other.Args[2].V.Items[0].Name = "z", "z"
	if !Same(one, m) {
		t.Error("Get's call is not its own")
	}
	room := []byte(want + "and more")
	got, code := Get(room[:len(want)])
	_ = append(got.Args, api.Item{Name: "z"})
	if code != api.OK || string(room) != want+"and more" {
		t.Error("the room behind the bytes is the caller's")
	}
}

// Promise 5.3: calls go through the wire: of many calls what is got is what was put.
func TestThroughTheWire(t *testing.T) {
	for seed := range 200 {
		for _, x := range methods {
			s := source{uint64(seed)*1000 + uint64(x.id)}
			want := s.call(x.id, x.parts)
			b, code := Put(want)
			if code != api.OK {
				t.Fatalf("%+v: %d", want, code)
			}
			if got, code := Get(b); code != api.OK || !Same(got, want) {
				t.Fatalf("%+v, %d, not %+v", got, code, want)
			}
		}
	}
}

// source makes calls, the same ones of the same seed.
type source struct{ state uint64 }

func (s *source) below(n uint64) uint64 {
	s.state = s.state*6364136223846793005 + 1442695040888963407
	return s.state >> 32 % n
}

func (s *source) text() string {
	var b []byte
	for range s.below(256) {
		b = append(b, byte(s.below(256)))
	}
	return string(b)
}

func (s *source) call(id int, parts string) api.Method {
	all := api.Method{Name: s.text(), Type: s.text(), Ex: s.text(), Key: s.text(), Text: s.text(),
		Code: int(s.below(1 << 16)), Count: int(s.below(1 << 32)), Tag: s.below(1<<32)<<32 | s.below(1<<32),
		Flag: s.below(2) == 1, Back: s.below(2) == 1, Args: many(int(s.below(33)))}
	m := api.Method{Id: id}
	for _, letter := range []byte(parts) {
		copyPart(&m, all, letter)
	}
	return m
}
