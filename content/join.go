package content

import (
	"slices"

	"carrefour/api"
	"carrefour/method"
	"carrefour/octet"
	"carrefour/value"
)

// state is what a join has of a message.
type state int

const (
	nothing state = iota
	called        // its call
	headed        // its header, too, and not yet all of its body
	whole
)

// Join puts a message together from its frames. No call that has content has
// lists, so the call is kept as it is; the props are kept as the bytes that
// they came in, and read anew by each Done: what it answers is nobody else's.
type Join struct {
	channel int
	has     state
	call    api.Method
	props   []byte
	body    []byte
	left    int // bytes of the body that are still to come
}

// New is a join for that channel.
func New(channel int) *Join { return &Join{channel: channel} }

// Add takes the next frame: true with the last one of a message.
func (j *Join) Add(f api.Frame) (bool, int) {
	if j == nil {
		return false, api.ErrState
	}
	if f.Kind == api.FBeat {
		return false, api.OK
	}
	if f.Channel != j.channel {
		return false, api.ChannelBad
	}
	has, code := j.take(f)
	if code != api.OK {
		*j = Join{channel: j.channel}
		return false, code
	}
	j.has = has
	return has == whole, api.OK
}

// take is the state behind f.
func (j *Join) take(f api.Frame) (state, int) {
	var code int
	switch j.has {
	case called:
		goto headerNext
	case headed:
		goto bodyNext
	}
	if f.Kind != api.FMethod {
		goto notNext
	}
	code = j.takeCall(f.Data)
	return called, code

headerNext:
	if f.Kind != api.FHeader {
		goto notNext
	}
	code = j.takeHeader(f.Data)
	if code != api.OK {
		return nothing, code
	}
	goto asWhole

bodyNext:
	if f.Kind != api.FBody || len(f.Data) == 0 || len(f.Data) > j.left {
		goto notNext
	}
	j.body = append(j.body, f.Data...)
	j.left -= len(f.Data)

asWhole:
	if j.left == 0 {
		return whole, api.OK
	}
	return headed, api.OK

notNext:
	return nothing, api.FrameErr
}

// takeCall forgets the message ahead.
func (j *Join) takeCall(b []byte) int {
	m, code := method.Get(b)
	if code != api.OK {
		return code
	}
	if !hasContent(m.Id) {
		return api.CommandBad
	}
	*j = Join{channel: j.channel, call: m}
	return api.OK
}

func (j *Join) takeHeader(b []byte) int {
	r := octet.Reader{Left: b}
	size := r.Number(sizeBytes)
	_, code := value.Get(r.Left)
	if r.Bad || size > longestBody || code != api.OK {
		return api.SyntaxErr
	}
	j.props, j.left = slices.Clone(r.Left), int(size)
	return api.OK
}

// Done is the parts of the message that is whole.
func (j *Join) Done() (api.Method, []api.Item, []byte) {
	if j == nil || j.has != whole {
		return api.Method{}, nil, nil
	}
	props, _ := value.Get(j.props)
	return j.call, props, slices.Clone(j.body)
}
