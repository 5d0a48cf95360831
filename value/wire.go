package value

import (
	"strings"

	"carrefour/api"
)

const (
	letters    = "VtIlSF" // of the Kinds, from VNone on
	longestPut = 3000
	sizeBytes  = 4 // of how many bytes follow
)

// Put is l's bytes.
func Put(l []api.Item) ([]byte, int) {
	if !MayTable(l) {
		return nil, api.ErrArg
	}
	b := putTable(nil, l)
	if len(b) > longestPut {
		return nil, api.SyntaxErr
	}
	return b, api.OK
}

// putTable leaves room for the size, since it is known last. It stops once b
// is too long: lists that share items can be of far more bytes than memory has.
func putTable(b []byte, l []api.Item) []byte {
	start := len(b)
	b = putNumber(b, 0, sizeBytes)
	k := 0
more:
	if k < len(l) && len(b) <= longestPut {
		b = append(b, byte(len(l[k].Name)))
		b = append(b, l[k].Name...)
		b = putValue(b, l[k].V)
		k++
		goto more
	}
	putNumber(b[:start], uint64(len(b)-start-sizeBytes), sizeBytes)
	return b
}

func putValue(b []byte, v api.Value) []byte {
	b = append(b, letters[v.Kind])
	switch v.Kind {
	case api.VBool:
		return putNumber(b, uint64(v.N), 1)
	case api.VInt:
		return putNumber(b, uint64(v.N), 4)
	case api.VLong:
		return putNumber(b, uint64(v.N), 8)
	case api.VText:
		return append(putNumber(b, uint64(len(v.S)), sizeBytes), v.S...)
	case api.VTable:
		return putTable(b, v.Items)
	}
	return b
}

// putNumber appends the size lowest bytes of n, the greatest first.
func putNumber(b []byte, n uint64, size int) []byte {
more:
	if size > 0 {
		size--
		b = append(b, byte(n>>(8*size)))
		goto more
	}
	return b
}

// Get is the table of these bytes. What is read in their shape has one way to
// be written, so only what may not be, and what is too long, is left to refuse.
func Get(b []byte) ([]api.Item, int) {
	if len(b) > longestPut {
		return nil, api.SyntaxErr
	}
	r := reader{left: b}
	l := r.table()
	if r.bad || len(r.left) > 0 || !MayTable(l) {
		return nil, api.SyntaxErr
	}
	return l, api.OK
}

// reader takes bytes from the front of what is left. Once it lacked some it is
// bad, and nothing is left, so that whoever reads on comes to an end.
type reader struct {
	left []byte
	bad  bool
}

// take is the next size bytes.
func (r *reader) take(size uint64) []byte {
	if size > uint64(len(r.left)) {
		r.left, r.bad = nil, true
		return nil
	}
	b := r.left[:size]
	r.left = r.left[size:]
	return b
}

// number is the next size bytes as a number, the greatest first.
func (r *reader) number(size uint64) uint64 {
	b := r.take(size)
	n := uint64(0)
more:
	if len(b) > 0 {
		n = n<<8 | uint64(b[0])
		b = b[1:]
		goto more
	}
	return n
}

// counted is the bytes behind the number that tells how many they are.
func (r *reader) counted(size uint64) []byte {
	n := r.number(size)
	return r.take(n)
}

func (r *reader) table() []api.Item {
	in := reader{left: r.counted(sizeBytes)}
	var l []api.Item
more:
	if len(in.left) > 0 {
		name := string(in.counted(1))
		l = append(l, api.Item{Name: name, V: in.value()})
		goto more
	}
	r.bad = r.bad || in.bad
	return l
}

// value has a Kind below 0, which may not be, of a letter that is none.
func (r *reader) value() api.Value {
	v := api.Value{Kind: r.kind()}
	switch v.Kind {
	case api.VBool:
		v.N = int64(r.number(1))
	case api.VInt:
		v.N = int64(int32(r.number(4)))
	case api.VLong:
		v.N = int64(r.number(8))
	case api.VText:
		v.S = string(r.counted(sizeBytes))
	case api.VTable:
		v.Items = r.table()
	}
	return v
}

func (r *reader) kind() int {
	return strings.IndexByte(letters, byte(r.number(1)))
}
