package method

import (
	"carrefour/api"
	"carrefour/value"
)

// How many bytes the numbers of a call have.
const (
	classBytes  = 2
	methodBytes = 2
	lengthBytes = 1 // of a text's length
	codeBytes   = 2
	countBytes  = 4
	tagBytes    = 8
	flagBytes   = 1
)

// args is the letter of Args, which are neither a text nor a number.
const args = 'a'

// text is where m has the text of that letter; nil of a letter that is no text's.
func text(m *api.Method, letter byte) *string {
	switch letter {
	case 'n':
		return &m.Name
	case 'y':
		return &m.Type
	case 'e':
		return &m.Ex
	case 'k':
		return &m.Key
	case 'x':
		return &m.Text
	}
	return nil
}

// number is m's number or flag of that letter, and how many bytes it has. What
// is below 0 comes out as more than its bytes can hold.
func number(m *api.Method, letter byte) (uint64, int) {
	switch letter {
	case 'c':
		return uint64(m.Code), codeBytes
	case 'u':
		return uint64(m.Count), countBytes
	case 't':
		return m.Tag, tagBytes
	case 'f':
		return bit(m.Flag), flagBytes
	case 'b':
		return bit(m.Back), flagBytes
	}
	return 0, 0
}

// setNumber makes n m's number or flag of that letter. A flag holds 0 and 1 alone.
func setNumber(m *api.Method, letter byte, n uint64) {
	switch letter {
	case 'c':
		m.Code = int(n)
	case 'u':
		m.Count = int(n)
	case 't':
		m.Tag = n
	case 'f':
		m.Flag = n == 1
	case 'b':
		m.Back = n == 1
	}
}

func bit(flag bool) uint64 {
	if flag {
		return 1
	}
	return 0
}

// mayPart tells whether m's part of that letter may be.
func mayPart(m *api.Method, letter byte) bool {
	if letter == args {
		return value.MayTable(m.Args)
	}
	if s := text(m, letter); s != nil {
		return len(*s) <= longestText
	}
	n, size := number(m, letter)
	return n>>(8*size) == 0
}

// takeAway leaves m's part of that letter 0 or empty.
func takeAway(m *api.Method, letter byte) {
	if letter == args {
		m.Args = nil
	} else if s := text(m, letter); s != nil {
		*s = ""
	} else {
		setNumber(m, letter, 0)
	}
}
