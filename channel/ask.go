package channel

import (
	"slices"

	"carrefour/api"
	"carrefour/route"
)

// What there may be at most.
const (
	mostQueues    = 16
	mostConsumers = 16
	mostName      = 40 // bytes of a queue's name
)

// ask is what an open channel answers.
func (c *Channel) ask(m api.Method) ([]api.Method, int) {
	switch m.Id {
	case api.ChanOpen:
		return nil, api.ChannelBad
	case api.ExDeclare:
		return c.exchange(m)
	case api.QDeclare:
		return c.queue(m.Name)
	case api.QBind:
		return c.bind(m)
	case api.Qos:
		return done(api.QosOk, c.credit.Limit(m.Count))
	case api.Consume:
		return c.consume(m)
	case api.Get:
		return c.get(m.Name)
	case api.Publish:
		return c.publish(m)
	case api.Ack, api.Nack:
		return c.settle(m.Tag, m.Flag)
	case api.Reject:
		return c.settle(m.Tag, false) // its flag says where the message goes
	}
	return c.mode(m.Id)
}

// done is the answer id, unless a layer below refused what was asked.
func done(id, code int) ([]api.Method, int) {
	switch code {
	case api.OK:
		return one(id), api.OK
	case api.ErrArg: // AMQP has no such code
		return nil, api.Precond
	}
	return nil, code
}

func (c *Channel) exchange(m api.Method) ([]api.Method, int) {
	kind := kindOf(m.Type)
	if kind == 0 {
		return nil, api.CommandBad
	}
	x, code := route.Declare(c.exchanges, api.Exchange{Name: m.Name, Kind: kind})
	c.exchanges = x
	return done(api.ExDeclareOk, code)
}

// kindOf is the kind of exchange that AMQP's word names, or 0.
func kindOf(word string) int {
	switch word {
	case "direct":
		return api.Direct
	case "fanout":
		return api.Fanout
	case "topic":
		return api.Topic
	case "x-consistent-hash":
		return api.Hash
	}
	return 0
}

func (c *Channel) queue(name string) ([]api.Method, int) {
	if !c.has(name) {
		if name == "" || len(name) > mostName || len(c.queues) == mostQueues {
			return nil, api.Precond
		}
		c.queues = append(c.queues, name)
	}
	return []api.Method{{Id: api.QDeclareOk, Name: name, Count: len(c.queues)}}, api.OK
}

func (c *Channel) has(queue string) bool {
	return slices.Contains(c.queues, queue)
}

func (c *Channel) bind(m api.Method) ([]api.Method, int) {
	if !c.has(m.Name) {
		return nil, api.NotFound
	}
	b := api.Binding{Ex: m.Ex, Queue: m.Name, Key: m.Key}
	if i := route.Find(c.exchanges, m.Ex); i >= 0 && c.exchanges[i].Kind == api.Hash {
		b.Weight = weight(m.Args)
	}
	l, code := route.Bind(c.exchanges, c.bindings, b)
	c.bindings = l
	return done(api.QBindOk, code)
}

// weight is what a binding to a Hash asks for. Of no weight that is a VInt, it is
// like any other.
func weight(args []api.Item) int {
	for _, x := range args {
		if x.Name == "weight" && x.V.Kind == api.VInt {
			return int(x.V.N)
		}
	}
	return 1
}

func (c *Channel) consume(m api.Method) ([]api.Method, int) {
	switch {
	case !c.has(m.Name):
		return nil, api.NotFound
	case slices.Contains(c.consumers, m.Text) || len(c.consumers) == mostConsumers:
		return nil, api.NotAllowed
	}
	c.consumers = append(c.consumers, m.Text)
	return []api.Method{{Id: api.ConsumeOk, Text: m.Text}}, api.OK
}

func (c *Channel) get(queue string) ([]api.Method, int) {
	if !c.has(queue) {
		return nil, api.NotFound
	}
	return one(api.GetEmpty), api.OK
}

// publish tells the client only of a message that it wants to hear of: one that
// finds no queue.
func (c *Channel) publish(m api.Method) ([]api.Method, int) {
	l, code := c.Routes(m.Ex, m.Key)
	if code != api.OK || len(l) > 0 || !m.Flag {
		return nil, code
	}
	return []api.Method{{Id: api.Return, Code: api.NoRoute, Ex: m.Ex, Key: m.Key}}, api.OK
}

func (c *Channel) settle(tag uint64, all bool) ([]api.Method, int) {
	_, code := c.credit.Settle(tag, all)
	return nil, code
}

// mode is confirms or transactions: a channel has one of them at most. What is left
// beside them, the server alone says.
func (c *Channel) mode(id int) ([]api.Method, int) {
	switch {
	case id == api.Select && !c.tx:
		c.confirms = true
		return one(api.SelectOk), api.OK
	case id == api.TxSelect && !c.confirms:
		c.tx = true
		return one(api.TxSelectOk), api.OK
	case id == api.TxCommit && c.tx:
		return one(api.TxCommitOk), api.OK
	case id == api.TxRollback && c.tx:
		return one(api.TxRollOk), api.OK
	}
	switch id {
	case api.Select, api.TxSelect, api.TxCommit, api.TxRollback:
		return nil, api.Precond
	}
	return nil, api.CommandBad
}
