package channel

import (
	"slices"

	"carrefour/api"
	"carrefour/method"
	"carrefour/route"
)

// book is a channel by the chapter's words: all that it was asked and given since
// it is open. What it has is worked out from that each time.
type book struct {
	open, shut bool
	asked      []api.Method // what had no error
	given      []uint64     // tags
	settled    []uint64
}

// of is what was asked by a method's name.
func (b *book) of(id int) []api.Method {
	return slices.DeleteFunc(slices.Clone(b.asked), func(m api.Method) bool { return m.Id != id })
}

func (b *book) queues() []string {
	var l []string
	for _, m := range b.of(api.QDeclare) {
		if !slices.Contains(l, m.Name) {
			l = append(l, m.Name)
		}
	}
	return l
}

func (b *book) exchanges() []api.Exchange {
	words := []string{"", "direct", "fanout", "topic", "x-consistent-hash"}
	var l []api.Exchange
	for _, m := range b.of(api.ExDeclare) {
		if e := (api.Exchange{Name: m.Name, Kind: slices.Index(words, m.Type)}); !slices.Contains(l, e) {
			l = append(l, e)
		}
	}
	return l
}

func (b *book) bindings() []api.Binding {
	var l []api.Binding
	for _, m := range b.of(api.QBind) {
		if x := b.binding(m); !slices.Contains(l, x) {
			l = append(l, x)
		}
	}
	return l
}

func (b *book) binding(m api.Method) api.Binding {
	x := api.Binding{Ex: m.Ex, Queue: m.Name, Key: m.Key}
	if slices.Contains(b.exchanges(), api.Exchange{Name: m.Ex, Kind: api.Hash}) {
		x.Weight = 1
		for _, a := range m.Args {
			if a.Name == "weight" && a.V.Kind == api.VInt {
				x.Weight = int(a.V.N)
			}
		}
	}
	return x
}

// held is the tags that were given and not settled.
func (b *book) held() []uint64 {
	return slices.DeleteFunc(slices.Clone(b.given), func(x uint64) bool { return slices.Contains(b.settled, x) })
}

func (b *book) most() int {
	most := 0
	for _, m := range b.of(api.Qos) {
		most = m.Count
	}
	if most == 0 {
		return 1000
	}
	return most
}

func (b *book) routes(ex, key string) ([]string, int) {
	x := b.exchanges()
	switch {
	case ex == "" && slices.Contains(b.queues(), key):
		return []string{key}, 0
	case ex == "":
		return nil, 0
	case !slices.ContainsFunc(x, func(e api.Exchange) bool { return e.Name == ex }):
		return nil, 404
	}
	return route.Queues(x, b.bindings(), ex, key)
}

// call is what the chapter has as the answer.
func (b *book) call(m api.Method) ([]api.Method, int) {
	may := method.May(m)
	if b.shut {
		if may && m.Id == api.ChanCloseOk {
			*b = book{}
		}
		if may && m.Id == api.ChanClose {
			return []api.Method{{Id: api.ChanCloseOk}}, 0
		}
		return nil, 0
	}
	code := b.code(m)
	switch {
	case !may:
		code = 502
	case b.open == (m.Id == api.ChanOpen):
		code = 504
	}
	if code != 0 {
		*b = book{shut: true}
		return []api.Method{{Id: api.ChanClose, Code: code}}, code
	}
	return b.answer(m), 0
}

func (b *book) answer(m api.Method) []api.Method {
	b.asked = append(b.asked, m)
	switch m.Id {
	case api.ChanOpen:
		*b = book{open: true}
		return []api.Method{{Id: 2011}}
	case api.ChanClose:
		*b = book{}
		return []api.Method{{Id: 2041}}
	case api.QDeclare:
		return []api.Method{{Id: 5011, Name: m.Name, Count: len(b.queues())}}
	case api.Consume:
		return []api.Method{{Id: 6021, Text: m.Text}}
	case api.Get:
		return []api.Method{{Id: 6072}}
	case api.Publish:
		if l, _ := b.routes(m.Ex, m.Key); len(l) == 0 && m.Flag {
			return []api.Method{{Id: 6050, Code: 312, Ex: m.Ex, Key: m.Key}}
		}
		return nil
	case api.Ack, api.Nack, api.Reject:
		b.settled = append(b.settled, b.named(m)...)
		return nil
	}
	return []api.Method{{Id: m.Id + 1}} // its Ok
}

// named is what m settles.
func (b *book) named(m api.Method) []uint64 {
	all := m.Flag && m.Id != api.Reject
	return slices.DeleteFunc(b.held(), func(x uint64) bool {
		return x != m.Tag && !all || x > m.Tag && m.Tag > 0
	})
}

// code is that of a method asked of an open channel.
func (b *book) code(m api.Method) int {
	switch m.Id {
	case api.ChanOpen, api.ChanClose:
		return 0
	case api.ExDeclare:
		return b.exchangeCode(m)
	case api.QDeclare:
		if l := b.queues(); m.Name == "" || len(m.Name) > 40 || len(l) == 16 && !slices.Contains(l, m.Name) {
			return 406
		}
		return 0
	case api.QBind, api.Consume, api.Get:
		if !slices.Contains(b.queues(), m.Name) {
			return 404
		}
		if m.Id == api.QBind {
			return b.bindCode(m)
		}
		l := b.of(api.Consume)
		if m.Id == api.Consume && (len(l) == 16 || slices.ContainsFunc(l, func(x api.Method) bool { return x.Text == m.Text })) {
			return 530
		}
		return 0
	case api.Publish:
		_, code := b.routes(m.Ex, m.Key)
		return code
	}
	return b.codeOfRest(m)
}

func (b *book) codeOfRest(m api.Method) int {
	var may bool
	switch m.Id {
	case api.Qos:
		may = m.Count <= 65535
	case api.Ack, api.Nack:
		may = m.Flag && m.Tag == 0 || len(b.named(m)) > 0
	case api.Reject:
		may = len(b.named(m)) > 0
	case api.Select:
		may = len(b.of(api.TxSelect)) == 0
	case api.TxSelect:
		may = len(b.of(api.Select)) == 0
	case api.TxCommit, api.TxRollback:
		may = len(b.of(api.TxSelect)) > 0
	default:
		return 503
	}
	if may {
		return 0
	}
	return 406
}

func (b *book) exchangeCode(m api.Method) int {
	kind := slices.Index([]string{"direct", "fanout", "topic", "x-consistent-hash"}, m.Type) + 1
	x := b.exchanges()
	switch e := (api.Exchange{Name: m.Name, Kind: kind}); {
	case kind == 0:
		return 503
	case slices.Contains(x, e) || route.May(append(x, e), nil):
		return 0
	}
	return 406
}

func (b *book) bindCode(m api.Method) int {
	x, l, y := b.exchanges(), b.bindings(), b.binding(m)
	switch {
	case !slices.ContainsFunc(x, func(e api.Exchange) bool { return e.Name == m.Ex }):
		return 404
	case slices.Contains(l, y) || route.May(x, append(l, y)):
		return 0
	}
	return 406
}

// give is what the chapter has as the answer.
func (b *book) give(m api.Method) (api.Method, int) {
	none := api.Method{}
	deliver := m.Id == api.Deliver
	switch {
	case !deliver && m.Id != api.GetOk, !method.May(m):
		return none, 1
	case !b.open:
		return none, 7
	case deliver && !slices.ContainsFunc(b.of(api.Consume), func(x api.Method) bool { return x.Text == m.Text }):
		return none, 3
	case m.Tag == 0 || len(b.given) > 0 && m.Tag <= slices.Max(b.given):
		return none, 1
	case len(b.held()) >= b.most():
		return none, 4
	}
	b.given = append(b.given, m.Tag)
	return m, 0
}
