package method

import (
	"carrefour/api"
	"carrefour/octet"
	"carrefour/value"
)

// perClass is what a class counts in an Id: of each, the methods are below it.
const perClass = 100

// Put is m's bytes.
func Put(m api.Method) ([]byte, int) {
	if !May(m) {
		return nil, api.ErrArg
	}
	b := octet.PutNumber(nil, uint64(m.Id/perClass), classBytes)
	b = octet.PutNumber(b, uint64(m.Id%perClass), methodBytes)
	return putParts(b, m)
}

// putParts appends the parts of m, which may be.
func putParts(b []byte, m api.Method) ([]byte, int) {
	var letter byte
	var n uint64
	var size, code int
	var table []byte
	left := Parts(m.Id)

more:
	if left == "" {
		return b, api.OK
	}
	letter, left = left[0], left[1:]
	if letter == args {
		goto putTable
	}
	if text(&m, letter) != nil {
		goto putText
	}
	n, size = number(&m, letter)
	b = octet.PutNumber(b, n, size)
	goto more
putText:
	b = octet.PutText(b, *text(&m, letter), lengthBytes)
	goto more
putTable:
	table, code = value.Put(m.Args)
	if code != api.OK {
		return nil, code
	}
	b = append(b, table...)
	goto more
}

// Get is the call of these bytes.
func Get(b []byte) (api.Method, int) {
	r := reader{octet.Reader{Left: b}}
	class, method := r.Number(classBytes), r.Number(methodBytes)
	if r.Bad {
		return api.Method{}, api.SyntaxErr
	}
	id := int(class*perClass + method)
	if method >= perClass || Parts(id) == noMethod {
		return api.Method{}, api.CommandBad
	}
	m := r.parts(id)
	if r.Bad || len(r.Left) > 0 {
		return api.Method{}, api.SyntaxErr
	}
	return m, api.OK
}

// reader reads what calls are made of.
type reader struct{ octet.Reader }

// parts is the call of that Id whose parts are next.
func (r *reader) parts(id int) api.Method {
	m := api.Method{Id: id}
	left := Parts(id)
more:
	if left != "" {
		r.part(&m, left[0])
		left = left[1:]
		goto more
	}
	return m
}

func (r *reader) part(m *api.Method, letter byte) {
	if letter == args {
		m.Args = r.table()
	} else if s := text(m, letter); s != nil {
		*s = string(r.Counted(lengthBytes))
	} else {
		r.numberOrFlag(m, letter)
	}
}

// numberOrFlag is bad of what the part can't hold: it would be put as other bytes.
func (r *reader) numberOrFlag(m *api.Method, letter byte) {
	_, size := number(m, letter)
	n := r.Number(size)
	setNumber(m, letter, n)
	if held, _ := number(m, letter); held != n {
		r.Bad = true
	}
}

// table is of all bytes that are left, since Args are the last of all parts.
func (r *reader) table() []api.Item {
	l, code := value.Get(r.Left)
	r.Left, r.Bad = nil, r.Bad || code != api.OK
	return l
}
