package octet

import (
	"math"
	"strings"
	"testing"
)

// numbers are numbers and their bytes, worked out by hand.
var numbers = []struct {
	n    uint64
	size int
	b    string
}{
	{0, 0, ""},
	{0, 1, "\x00"},
	{206, 1, "\xce"},
	{0x0102, 2, "\x01\x02"},
	{65535, 2, "\xff\xff"},
	{7, 4, "\x00\x00\x00\x07"},
	{1<<32 - 1, 4, "\xff\xff\xff\xff"},
	{0x0102030405060708, 8, "\x01\x02\x03\x04\x05\x06\x07\x08"},
	{1 << 63, 8, "\x80\x00\x00\x00\x00\x00\x00\x00"},
	{math.MaxUint64, 8, "\xff\xff\xff\xff\xff\xff\xff\xff"},
}

func TestNumbers(t *testing.T) {
	for k, x := range numbers {
		if b := PutNumber([]byte("ab"), x.n, x.size); string(b) != "ab"+x.b {
			t.Errorf("%d: %q", k, b)
		}
		r := Reader{Left: []byte(x.b + "cd")}
		if n := r.Number(x.size); n != x.n || r.Bad || string(r.Left) != "cd" {
			t.Errorf("%d: %d, %q left, bad %t", k, n, r.Left, r.Bad)
		}
	}
	if b := PutNumber(nil, 0x010203, 2); string(b) != "\x02\x03" {
		t.Errorf("the lowest bytes: %q", b)
	}
}

func TestTexts(t *testing.T) {
	for k, x := range []struct {
		s    string
		size int
		b    string
	}{
		{"", 1, "\x00"},
		{"", 4, "\x00\x00\x00\x00"},
		{"hi", 1, "\x02hi"},
		{"\xff\x00", 4, "\x00\x00\x00\x02\xff\x00"},
		{strings.Repeat("x", 255), 1, "\xff" + strings.Repeat("x", 255)},
		{strings.Repeat("x", 258), 2, "\x01\x02" + strings.Repeat("x", 258)},
	} {
		if b := PutText([]byte("ab"), x.s, x.size); string(b) != "ab"+x.b {
			t.Errorf("%d: %q", k, b)
		}
		r := Reader{Left: []byte(x.b + "cd")}
		if s := r.Counted(x.size); string(s) != x.s || r.Bad || string(r.Left) != "cd" {
			t.Errorf("%d: %q, %q left, bad %t", k, s, r.Left, r.Bad)
		}
	}
}

// What lacks bytes is bad, answers nothing, and stays so.
func TestBad(t *testing.T) {
	for k, read := range []func(r *Reader) bool{
		func(r *Reader) bool { return len(r.Take(4)) == 0 },
		func(r *Reader) bool { return len(r.Take(math.MaxUint64)) == 0 },
		func(r *Reader) bool { return r.Number(4) == 0 },
		func(r *Reader) bool { return len(r.Counted(1)) == 0 },
		func(r *Reader) bool { return len(r.Counted(2)) == 0 },
		func(r *Reader) bool { return len(r.Counted(4)) == 0 },
	} {
		r := Reader{Left: []byte("\x03\xff\xff")}
		if !read(&r) || !r.Bad || len(r.Left) != 0 {
			t.Errorf("%d: %q left, bad %t", k, r.Left, r.Bad)
		}
		if r.Take(0); !r.Bad || r.Number(1) != 0 || len(r.Counted(1)) != 0 {
			t.Errorf("%d: it goes on", k)
		}
	}
	r := Reader{Left: []byte("\x02hi")}
	if s := r.Counted(1); string(s) != "hi" || r.Bad || len(r.Left) != 0 {
		t.Errorf("to the end: %q, bad %t", s, r.Bad)
	}
}
