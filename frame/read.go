package frame

import (
	"carrefour/api"
	"carrefour/octet"
)

// Next is the frame at b's beginning, and how many bytes it has. Each number
// is judged ahead of the bytes behind it: whoever waits for more bytes is told
// at once when none can help.
func Next(b []byte) (api.Frame, int, int) {
	r := octet.Reader{Left: b}
	var kind, channel, length, last int
	var data []byte

	kind = int(r.Number(kindBytes))
	if r.Bad {
		goto cut
	}
	if !mayKind(kind) {
		goto never
	}
	channel = int(r.Number(channelBytes))
	if r.Bad {
		goto cut
	}
	if !mayChannel(kind, channel) {
		goto never
	}
	length = int(r.Number(lengthBytes))
	if r.Bad {
		goto cut
	}
	if !mayLength(kind, length) {
		goto never
	}
	data = r.Take(uint64(length))
	if r.Bad {
		goto cut
	}
	last = int(r.Number(endBytes))
	if r.Bad {
		goto cut
	}
	if last != end {
		goto never
	}
	return api.Frame{Kind: kind, Channel: channel, Data: own(data)}, len(b) - len(r.Left), api.OK

cut:
	return api.Frame{}, 0, api.ErrNone
never:
	return api.Frame{}, 0, api.FrameErr
}

// All is the frames of b, how many bytes they have, and what ended it.
func All(b []byte) ([]api.Frame, int, int) {
	var l []api.Frame
	read := 0
more:
	if read == len(b) {
		return l, read, api.OK
	}
	f, size, code := Next(b[read:])
	if code != api.OK {
		return l, read, code
	}
	l = append(l, f)
	read += size
	goto more
}

// own is b in memory that is nobody else's: a slice of what was handed in
// would change with it.
func own(b []byte) []byte { return append([]byte(nil), b...) }
