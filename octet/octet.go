// Package octet is what the layers that write and read bytes have in common:
// numbers, their greatest byte first, and texts behind their length.
package octet

// PutNumber appends the size lowest bytes of n, the greatest first.
func PutNumber(b []byte, n uint64, size int) []byte {
more:
	if size > 0 {
		size--
		b = append(b, byte(n>>(8*size)))
		goto more
	}
	return b
}

// PutText appends s behind its length, a number of size bytes.
func PutText(b []byte, s string, size int) []byte {
	return append(PutNumber(b, uint64(len(s)), size), s...)
}

// Reader takes bytes from the front of what is left. Once it lacked some it is
// bad, and nothing is left, so that whoever reads on comes to an end.
type Reader struct {
	Left []byte
	Bad  bool
}

// Take is the next size bytes: a piece of the reader's own, not a copy.
func (r *Reader) Take(size uint64) []byte {
	if size > uint64(len(r.Left)) {
		r.Left, r.Bad = nil, true
		return nil
	}
	b := r.Left[:size]
	r.Left = r.Left[size:]
	return b
}

// Number is the next size bytes as a number, the greatest first.
func (r *Reader) Number(size int) uint64 {
	b := r.Take(uint64(size))
	n := uint64(0)
more:
	if len(b) > 0 {
		n = n<<8 | uint64(b[0])
		b = b[1:]
		goto more
	}
	return n
}

// Counted is the bytes behind the number, of size bytes, that tells how many
// they are.
func (r *Reader) Counted(size int) []byte {
	n := r.Number(size)
	return r.Take(n)
}
