package value

import (
	"strings"

	"carrefour/api"
	"carrefour/octet"
)

const (
	letters    = "VtIlSF" // of the Kinds, from VNone on
	longestPut = 3000
	nameBytes  = 1 // of a Name's length
	sizeBytes  = 4 // of how many bytes follow
)

// Put is l's bytes.
func Put(l []api.Item) ([]byte, int) {
	if !MayTable(l) {
		return nil, api.ErrArg
	}
	b := putTable(nil, l)
	if len(b) > longestPut {
		return nil, api.SyntaxErr
	}
	return b, api.OK
}

// putTable leaves room for the size, since it is known last. It stops once b
// is too long: lists that share items can be of far more bytes than memory has.
func putTable(b []byte, l []api.Item) []byte {
	start := len(b)
	b = octet.PutNumber(b, 0, sizeBytes)
	k := 0
more:
	if k < len(l) && len(b) <= longestPut {
		b = octet.PutText(b, l[k].Name, nameBytes)
		b = putValue(b, l[k].V)
		k++
		goto more
	}
	octet.PutNumber(b[:start], uint64(len(b)-start-sizeBytes), sizeBytes)
	return b
}

func putValue(b []byte, v api.Value) []byte {
	b = append(b, letters[v.Kind])
	switch v.Kind {
	case api.VBool:
		return octet.PutNumber(b, uint64(v.N), 1)
	case api.VInt:
		return octet.PutNumber(b, uint64(v.N), 4)
	case api.VLong:
		return octet.PutNumber(b, uint64(v.N), 8)
	case api.VText:
		return octet.PutText(b, v.S, sizeBytes)
	case api.VTable:
		return putTable(b, v.Items)
	}
	return b
}

// Get is the table of these bytes. What is read in their shape has one way to
// be written, so only what may not be, and what is too long, is left to refuse.
func Get(b []byte) ([]api.Item, int) {
	if len(b) > longestPut {
		return nil, api.SyntaxErr
	}
	r := readerOf(b)
	l := r.table()
	if r.Bad || len(r.Left) > 0 || !MayTable(l) {
		return nil, api.SyntaxErr
	}
	return l, api.OK
}

// reader reads what tables are made of.
type reader struct{ octet.Reader }

func readerOf(b []byte) reader { return reader{octet.Reader{Left: b}} }

func (r *reader) table() []api.Item {
	in := readerOf(r.Counted(sizeBytes))
	var l []api.Item
more:
	if len(in.Left) > 0 {
		name := string(in.Counted(nameBytes))
		l = append(l, api.Item{Name: name, V: in.value()})
		goto more
	}
	r.Bad = r.Bad || in.Bad
	return l
}

// value has a Kind below 0, which may not be, of a letter that is none.
func (r *reader) value() api.Value {
	v := api.Value{Kind: r.kind()}
	switch v.Kind {
	case api.VBool:
		v.N = int64(r.Number(1))
	case api.VInt:
		v.N = int64(int32(r.Number(4)))
	case api.VLong:
		v.N = int64(r.Number(8))
	case api.VText:
		v.S = string(r.Counted(sizeBytes))
	case api.VTable:
		v.Items = r.table()
	}
	return v
}

func (r *reader) kind() int {
	return strings.IndexByte(letters, byte(r.Number(1)))
}
