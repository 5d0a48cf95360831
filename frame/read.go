package frame

import (
	"carrefour/api"
)

// Next is the frame at b's beginning, and how many bytes it has. Each number
// is judged ahead of the bytes behind it: whoever waits for more bytes is told
// at once when none can help.
func Next(b []byte) (api.Frame, int, int) {
	r := reader{left: b}
	var kind, channel, length, last int
	var data []byte
	var ok bool

	if kind, ok = r.number(kindBytes); !ok {
		goto cut
	}
	if !mayKind(kind) {
		goto never
	}
	if channel, ok = r.number(channelBytes); !ok {
		goto cut
	}
	if !mayChannel(kind, channel) {
		goto never
	}
	if length, ok = r.number(lengthBytes); !ok {
		goto cut
	}
	if !mayLength(kind, length) {
		goto never
	}
	if data, ok = r.take(length); !ok {
		goto cut
	}
	if last, ok = r.number(endBytes); !ok {
		goto cut
	}
	if last != end {
		goto never
	}
	return api.Frame{Kind: kind, Channel: channel, Data: own(data)}, len(b) - len(r.left), api.OK

cut:
	return api.Frame{}, 0, api.ErrNone
never:
	return api.Frame{}, 0, api.FrameErr
}

// All is the frames of b, how many bytes they have, and what ended it.
func All(b []byte) ([]api.Frame, int, int) {
	var l []api.Frame
	read := 0
more:
	if read == len(b) {
		return l, read, api.OK
	}
	f, size, code := Next(b[read:])
	if code != api.OK {
		return l, read, code
	}
	l = append(l, f)
	read += size
	goto more
}

// own is b in memory that is nobody else's: a slice of what was handed in
// would change with it.
func own(b []byte) []byte { return append([]byte(nil), b...) }

// reader takes bytes from the front of what is left.
type reader struct{ left []byte }

// take is the next size bytes, if they are there.
func (r *reader) take(size int) ([]byte, bool) {
	if size > len(r.left) {
		return nil, false
	}
	b := r.left[:size]
	r.left = r.left[size:]
	return b, true
}

// number is the next size bytes as a number, the greatest first, if all of
// them are there.
func (r *reader) number(size int) (int, bool) {
	b, ok := r.take(size)
	n := 0
more:
	if len(b) > 0 {
		n = n<<8 | int(b[0])
		b = b[1:]
		goto more
	}
	return n, ok
}
