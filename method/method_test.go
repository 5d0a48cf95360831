package method

import (
	"math"
	"strings"
	"testing"

	"carrefour/api"
)

// methods are all there are, and their parts, as chapter 5 tells them.
var methods = []struct {
	id    int
	parts string
}{
	{api.ChanOpen, ""}, {api.ChanOpenOk, ""}, {api.ChanClose, "cx"}, {api.ChanCloseOk, ""},
	{api.ExDeclare, "ny"}, {api.ExDeclareOk, ""},
	{api.QDeclare, "n"}, {api.QDeclareOk, "nu"}, {api.QBind, "neka"}, {api.QBindOk, ""},
	{api.Qos, "u"}, {api.QosOk, ""}, {api.Consume, "nx"}, {api.ConsumeOk, "x"},
	{api.Publish, "ekf"}, {api.Return, "cxek"}, {api.Deliver, "xtfek"},
	{api.Get, "n"}, {api.GetOk, "tfeku"}, {api.GetEmpty, ""},
	{api.Ack, "tf"}, {api.Reject, "tf"}, {api.Nack, "tfb"},
	{api.Select, ""}, {api.SelectOk, ""},
	{api.TxSelect, ""}, {api.TxSelectOk, ""}, {api.TxCommit, ""}, {api.TxCommitOk, ""}, {api.TxRollback, ""}, {api.TxRollOk, ""},
}

// letters are those of all parts.
const letters = "nyekxcutfba"

var oddIds = []int{math.MinInt, math.MinInt32, -6120, -1, math.MaxInt32, math.MaxInt, 1<<16 + api.ChanOpen, 1<<32 + api.ChanOpen}

// Promise 5.1.
func TestParts(t *testing.T) {
	want := map[int]string{}
	for _, x := range methods {
		want[x.id] = x.parts
	}
	if len(want) != 31 {
		t.Fatal(len(want), "methods")
	}
	ids := oddIds
	for id := -10000; id < 20000; id++ {
		ids = append(ids, id)
	}
	for _, id := range ids {
		parts, ok := want[id]
		if !ok {
			parts = "-"
		}
		if got := Parts(id); got != parts {
			t.Errorf("%d: %q, not %q", id, got, parts)
		}
	}
}

// change is another value of a part, and whether it may be where the method has the part.
type change struct {
	letter byte
	make   func(m *api.Method)
	may    bool
}

func textChanges() []change {
	var l []change
	for _, x := range []struct {
		s   string
		may bool
	}{
		{"x", true}, {"\x00", true}, {"\xff\xfe", true}, {"\u00e9", true},
		{strings.Repeat("x", 254), true}, {strings.Repeat("\x00", 255), true},
		{strings.Repeat("\u00e9", 127) + "x", true},
		{strings.Repeat("x", 256), false}, {strings.Repeat("\u00e9", 128), false},
		{strings.Repeat("x", 511), false}, {strings.Repeat("x", 512), false}, {strings.Repeat("x", 70000), false},
	} {
		l = append(l,
			change{'n', func(m *api.Method) { m.Name = x.s }, x.may},
			change{'y', func(m *api.Method) { m.Type = x.s }, x.may},
			change{'e', func(m *api.Method) { m.Ex = x.s }, x.may},
			change{'k', func(m *api.Method) { m.Key = x.s }, x.may},
			change{'x', func(m *api.Method) { m.Text = x.s }, x.may})
	}
	return l
}

func numberChanges() []change {
	l := []change{
		{'f', func(m *api.Method) { m.Flag = true }, true},
		{'b', func(m *api.Method) { m.Back = true }, true},
	}
	for _, n := range []int{1, 255, 256, 65534, 65535, 65536, 65537, 1 << 24, 1<<31 - 1, 1 << 31, 1<<32 - 1, 1 << 32, 1<<32 + 1, math.MaxInt, -1, -2, -65535, -65536, math.MinInt32, -1 << 32, math.MinInt} {
		l = append(l,
			change{'c', func(m *api.Method) { m.Code = n }, n > 0 && n < 65536},
			change{'u', func(m *api.Method) { m.Count = n }, n > 0 && n < 4294967296},
			change{'t', func(m *api.Method) { m.Tag = uint64(n) }, true})
	}
	return l
}

func argsChanges() []change {
	var l []change
	for _, x := range []struct {
		args []api.Item
		may  bool
	}{
		{[]api.Item{{Name: "a"}}, true},
		{sample(), true},
		{many(32), true},
		{deep(4), true},
		{many(33), false},
		{deep(5), false},
		{[]api.Item{{}}, false},
		{[]api.Item{{Name: "a"}, {Name: "a"}}, false},
		{[]api.Item{{Name: "a", V: api.Value{N: 1}}}, false},
		{[]api.Item{{Name: "a", V: api.Value{Kind: 6}}}, false},
		{loop(), false},
	} {
		l = append(l, change{'a', func(m *api.Method) { m.Args = x.args }, x.may})
	}
	return l
}

func allChanges() []change {
	return append(append(textChanges(), numberChanges()...), argsChanges()...)
}

// sample has a text, a number, and a table within.
func sample() []api.Item {
	return []api.Item{
		{Name: "s", V: api.Value{Kind: api.VText, S: "hi"}},
		{Name: "i", V: api.Value{Kind: api.VInt, N: -2}},
		{Name: "t", V: api.Value{Kind: api.VTable, Items: []api.Item{{Name: "b", V: api.Value{Kind: api.VBool, N: 1}}}}},
	}
}

// many is a table of so many items.
func many(n int) []api.Item {
	var l []api.Item
	for k := range n {
		l = append(l, api.Item{Name: string(rune('0' + k))})
	}
	return l
}

// deep is a table that goes so deep.
func deep(levels int) []api.Item {
	l := many(1)
	for range levels - 1 {
		l = []api.Item{{Name: "x", V: api.Value{Kind: api.VTable, Items: l}}}
	}
	return l
}

// loop is a list that holds itself.
func loop() []api.Item {
	l := []api.Item{{Name: "a", V: api.Value{Kind: api.VTable}}}
	l[0].V.Items = l
	return l
}

// judge asks May and Put of m.
func judge(t *testing.T, m api.Method, want bool, what ...any) {
	t.Helper()
	if got := May(m); got != want {
		t.Error(append(what, "May is", got)...)
	}
	b, code := Put(m)
	if want && (code != api.OK || len(b) < 4) || !want && (code != api.ErrArg || len(b) != 0) {
		t.Error(append(what, "Put:", len(b), "bytes, code", code)...)
	}
}

// Promise 5.2, May; and Put, of what may not be: each part of each method, that it has or has not.
func TestMay(t *testing.T) {
	for _, x := range methods {
		judge(t, api.Method{Id: x.id}, true, x.id)
		judge(t, api.Method{Id: x.id, Args: []api.Item{}}, true, x.id, "an empty list")
		for k, c := range allChanges() {
			m := api.Method{Id: x.id}
			c.make(&m)
			has := strings.IndexByte(x.parts, c.letter) >= 0
			judge(t, m, has && c.may, x.id, string(c.letter), k)
		}
	}
}

// Promise 5.2, May: a part that may not be is one too many beside others that may.
func TestMayAllParts(t *testing.T) {
	for _, x := range methods {
		judge(t, full(x.id, x.parts), true, x.id, "full")
		for k, c := range allChanges() {
			m := full(x.id, x.parts)
			c.make(&m)
			has := strings.IndexByte(x.parts, c.letter) >= 0
			judge(t, m, has && c.may, x.id, "full but for", string(c.letter), k)
		}
	}
}

// full is a call with all of these parts.
func full(id int, parts string) api.Method {
	m := api.Method{Id: id}
	all := api.Method{Name: "name", Type: "topic", Ex: "ex", Key: "key", Text: "text", Code: 404, Count: 70000, Tag: 1 << 40, Flag: true, Back: true, Args: sample()}
	for _, letter := range []byte(parts) {
		copyPart(&m, all, letter)
	}
	return m
}

func copyPart(m *api.Method, from api.Method, letter byte) {
	switch letter {
	case 'n':
		m.Name = from.Name
	case 'y':
		m.Type = from.Type
	case 'e':
		m.Ex = from.Ex
	case 'k':
		m.Key = from.Key
	case 'x':
		m.Text = from.Text
	case 'c':
		m.Code = from.Code
	case 'u':
		m.Count = from.Count
	case 't':
		m.Tag = from.Tag
	case 'f':
		m.Flag = from.Flag
	case 'b':
		m.Back = from.Back
	case 'a':
		m.Args = from.Args
	}
}

// Promise 5.2, May: of no method nothing may be.
func TestMayNoMethod(t *testing.T) {
	ids := map[int]struct{}{}
	for _, x := range methods {
		ids[x.id] = struct{}{}
	}
	odd := oddIds
	for id := -100; id < 10000; id++ {
		if _, ok := ids[id]; !ok {
			odd = append(odd, id)
		}
	}
	for _, id := range odd {
		judge(t, api.Method{Id: id}, false, id)
		judge(t, api.Method{Id: id, Name: "q", Args: loop()}, false, id)
	}
}

// Promise 5.2, Same: calls that are the same, also such as may not be.
func TestSame(t *testing.T) {
	for k, x := range [][2]api.Method{
		{{}, {}},
		{{Id: api.QBind}, {Id: api.QBind, Args: []api.Item{}}},
		{full(-5, letters), full(-5, letters)},
		{{Args: loop()}, {Args: loop()}},
		{{Args: many(40)}, {Args: many(40)}},
		{{Args: deep(100_000)}, {Args: deep(100_000)}},
		{{Name: strings.Repeat("x", 9000), Code: -1, Count: math.MinInt}, {Name: strings.Repeat("x", 9000), Code: -1, Count: math.MinInt}},
	} {
		if !Same(x[0], x[1]) || !Same(x[1], x[0]) {
			t.Errorf("%d: they are the same", k)
		}
	}
	for _, x := range methods {
		if !Same(full(x.id, x.parts), full(x.id, x.parts)) {
			t.Error(x.id, "they are the same")
		}
	}
}

// Promise 5.2, Same: with one part other they are not, whether the method has it or not.
func TestSameNot(t *testing.T) {
	rich := full(api.QBind, letters)
	rich.Flag, rich.Back, rich.Args = false, false, many(3)
	for _, one := range []api.Method{{}, {Id: api.ChanOpen}, rich} {
		other := one
		other.Id++
		if Same(one, other) || Same(other, one) {
			t.Error("Ids are not the same")
		}
		for k, c := range allChanges() {
			other := one
			c.make(&other)
			if Same(one, other) || Same(other, one) {
				t.Errorf("%d, %c, %d: they are not the same", one.Id, c.letter, k)
			}
		}
	}
	within := full(api.QBind, "neka")
	within.Args = sample()
	within.Args[2].V.Items[0].V.N = 0
	if Same(within, full(api.QBind, "neka")) || Same(full(api.QBind, "neka"), within) {
		t.Error("within Args they are not the same")
	}
}

// Rules 2 and 3: nothing that is handed in is changed, and the same is answered again.
func TestNothingIsChanged(t *testing.T) {
	m := full(api.QBind, "neka")
	first, _ := Put(m)
	for range 3 {
		May(m)
		Same(m, full(api.QBind, "neka"))
		b, code := Put(m)
		if code != api.OK || string(b) != string(first) || !Same(m, full(api.QBind, "neka")) || !Same(api.Method{Args: m.Args}, api.Method{Args: sample()}) {
			t.Fatal("other", code)
		}
	}
}
