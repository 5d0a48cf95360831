package slip

import (
	"bytes"
	"slices"
	"strings"
	"testing"

	"carrefour/api"
	"carrefour/shard"
)

// laid are records with their bytes.
func laid() []struct {
	r api.Record
	b string
} {
	a := api.Msg{Pub: 3, Seq: 0x01020304, Key: "key", Body: "hi", Again: true}
	b := api.Msg{Pub: 1, Seq: 7, Key: "k"}
	s := api.Shard{
		Frozen: true, Next: 0x02030405, Ready: []api.Msg{a, b},
		Held:  []api.Held{{Tag: 0x01000002, M: api.Msg{Pub: 2, Seq: 1, Key: "l", Body: "ho"}}},
		Marks: []api.Mark{{Pub: 3, Key: "key", Seq: 0x01020305}, {Pub: 1, Key: "k", Seq: 7}, {Pub: 2, Key: "l", Seq: 1}},
	}
	const (
		first  = "\x03\x01\x02\x03\x04\x01\x03key\x02hi"
		second = "\x01\x00\x00\x00\x07\x00\x01k\x00"
		third  = "\x01\x00\x00\x02\x02\x00\x00\x00\x01\x00\x01l\x02ho"
		marks  = "\x03\x03\x01\x02\x03\x05\x03key\x01\x00\x00\x00\x07\x01k\x02\x00\x00\x00\x01\x01l"
	)
	return []struct {
		r api.Record
		b string
	}{
		{put(a), "\x01\x01" + first},
		{put(b, a, b), "\x01\x03" + second + first + second},
		{put(api.Msg{Seq: 1 << 30, Key: strings.Repeat("x", 20), Body: strings.Repeat("\x00", 200)}), "\x01\x01\x00\x40\x00\x00\x00\x00\x14" + strings.Repeat("x", 20) + "\xc8" + strings.Repeat("\x00", 200)},
		{tagged(api.RGet, 1), "\x02\x00\x00\x00\x01"},
		{tagged(api.RAck, 0x01020304), "\x03\x01\x02\x03\x04"},
		{tagged(api.RNack, 1<<30), "\x04\x40\x00\x00\x00"},
		{bare(api.RFreeze), "\x05"},
		{bare(api.RThaw), "\x06"},
		{state(shard.New()), "\x07\x00\x00\x00\x00\x01\x00\x00\x00"},
		{state(s), "\x07\x01\x02\x03\x04\x05\x02" + first + second + "\x01" + third + marks},
	}
}

// Promise 14.1, Put and Get: just these bytes.
func TestBytes(t *testing.T) {
	for i, c := range laid() {
		if b, code := Put(c.r); code != api.OK || string(b) != c.b {
			t.Errorf("%d: Put: %q, %d", i, b, code)
		}
		if r, code := Get([]byte(c.b)); code != api.OK || !equal(r, c.r) {
			t.Errorf("%d: Get: %+v, %d", i, r, code)
		}
	}
}

// Promise 14.1, Put and Get: there and back.
func TestThereAndBack(t *testing.T) {
	for i, r := range good() {
		b, code := Put(r)
		if code != api.OK {
			t.Errorf("good %d: %d", i, code)
		}
		if x, code := Get(b); code != api.OK || !equal(x, r) {
			t.Errorf("good %d comes back as %+v, %d", i, x, code)
		}
	}
	if b, _ := Put(state(great())); len(b) != 1+1+4+1+48*(1+4+1+21+201)+1+16*4+1+64*(1+4+21) {
		t.Error("the longest one:", len(b))
	}
}

// Promise 14.1, Put: ErrArg of what may not be.
func TestPutErrArg(t *testing.T) {
	for i, r := range bad() {
		if b, code := Put(r); code != api.ErrArg || len(b) != 0 {
			t.Errorf("bad %d: %d bytes, %d", i, len(b), code)
		}
	}
}

// Promise 14.1, Put: ErrFull of more than 20,000 bytes. No record that may be has
// so many, so what asks is tested alone.
func TestFitting(t *testing.T) {
	for n, want := range map[int]int{0: api.OK, 1: api.OK, 19999: api.OK, 20000: api.OK, 20001: api.ErrFull, 1 << 20: api.ErrFull} {
		b, code := fitting(make([]byte, n))
		if code != want || code == api.OK && len(b) != n || code != api.OK && len(b) != 0 {
			t.Error(n, len(b), code)
		}
	}
}

func getRefused(b []byte) bool {
	r, code := Get(b)
	return code == api.ErrBytes && equal(r, api.Record{})
}

// Promise 14.1, Get: ErrBytes of fewer bytes and of more.
func TestGetCut(t *testing.T) {
	for i, r := range good() {
		b, _ := Put(r)
		for n := range min(len(b), 300) {
			if !getRefused(b[:n]) || !getRefused(b[:len(b)-1-n]) {
				t.Error("good", i, "cut by", n)
			}
		}
		for more := range 256 {
			if !getRefused(append(slices.Clone(b), byte(more))) {
				t.Error("good", i, "and", more)
			}
		}
		if !getRefused(append(slices.Clone(b), b...)) || !getRefused(append(slices.Clone(b), make([]byte, 1<<20)...)) {
			t.Error("good", i, "and more")
		}
	}
	if !getRefused(nil) || !getRefused([]byte{}) {
		t.Error("nothing")
	}
}

// taken tells whether Get answers ErrBytes of b, or else a record that has just
// these bytes.
func taken(b []byte) bool {
	r, code := Get(b)
	if code != api.OK {
		return getRefused(b)
	}
	back, code := Put(r)
	return code == api.OK && bytes.Equal(back, b)
}

// Promise 14.1, Get: each byte changed to each other one is another record's, or
// none's.
func TestGetChanged(t *testing.T) {
	for i, c := range laid() {
		for k := range c.b {
			for to := range 256 {
				b := []byte(c.b)
				b[k] = byte(to)
				if !taken(b) {
					t.Fatalf("%d: %q", i, b)
				}
			}
		}
	}
}

// Promise 14.1, Get: all rows of up to three bytes, and of the next ones some.
func TestGetAll(t *testing.T) {
	var run func(b []byte)
	run = func(b []byte) {
		if !taken(b) {
			t.Fatalf("%q", b)
		}
		if len(b) < 3 {
			for to := range 256 {
				run(append(b, byte(to)))
			}
		} else if len(b) < 8 {
			for _, to := range []byte{0, 1, 2} {
				run(append(b, to))
			}
		}
	}
	for kind := range 10 {
		run(append(make([]byte, 0, 9), byte(kind), 0))
		run(append(make([]byte, 0, 9), byte(kind), 1))
	}
}

// Promise 14.1, Get: what Put never makes, though it can be read.
func TestGetWrong(t *testing.T) {
	for i, b := range []string{
		"\x00", "\x08", "\xff", "\x00\x00\x00\x00\x01", "\x08\x00\x00\x00\x01",
		"\x01\x00",
		"\x01\x09" + strings.Repeat("\x00\x00\x00\x00\x01\x00\x01k\x00", 9),
		"\x01\x01\x04\x00\x00\x00\x01\x00\x01k\x00",
		"\x01\x01\x00\x00\x00\x00\x00\x00\x01k\x00",
		"\x01\x01\x00\x40\x00\x00\x01\x00\x01k\x00",
		"\x01\x01\x00\x00\x00\x00\x01\x02\x01k\x00",
		"\x01\x01\x00\x00\x00\x00\x01\xff\x01k\x00",
		"\x01\x01\x00\x00\x00\x00\x01\x00\x00\x00",
		"\x01\x01\x00\x00\x00\x00\x01\x00\x15" + strings.Repeat("k", 21) + "\x00",
		"\x01\x01\x00\x00\x00\x00\x01\x00\x01k\xc9" + strings.Repeat("x", 201),
		"\x02\x00\x00\x00\x00", "\x03\x40\x00\x00\x01", "\x04\xff\xff\xff\xff", "\x02\x80\x00\x00\x01",
		"\x05\x00", "\x06\x00",
		"\x07\x02\x00\x00\x00\x01\x00\x00\x00",
		"\x07\x00\x00\x00\x00\x00\x00\x00\x00",
		"\x07\x00\x40\x00\x00\x01\x00\x00\x00",
		"\x07\x00\x00\x00\x00\x01\x01\x00\x00\x00\x00\x01\x00\x01k\x00\x00\x00",
		"\x07\x00\x00\x00\x00\x01\x01\x00\x00\x00\x00\x02\x00\x01k\x00\x00\x01\x00\x00\x00\x00\x01\x01k",
		"\x07\x00\x00\x00\x00\x01\x00\x00\xff",
		"\x07\x00\x00\x00\x00\x01\x00\x00\x02\x00\x00\x00\x00\x01\x01k\x00\x00\x00\x00\x01\x01k",
	} {
		if !getRefused([]byte(b)) {
			t.Errorf("%d: %q is taken", i, b)
		}
	}
}

// Rules 2 and 3: nothing that is handed in is changed, or shared with an answer.
func TestBytesAreOwn(t *testing.T) {
	for i, r := range good() {
		with := copyOf(r)
		with.Shard = roomy(r.Shard)
		b, _ := Put(with)
		if !equal(with, r) {
			t.Fatal(i, "Put changes what it was given")
		}
		whole := slices.Clone(b)
		x, _ := Get(b)
		if !bytes.Equal(b, whole) {
			t.Fatal(i, "Get changes what it was given")
		}
		clear(b)
		if !equal(x, r) {
			t.Fatal(i, "Get shares with what it was given")
		}
		spoil(x.Shard)
		clear(x.Batch)
		if y, code := Get(whole); code != api.OK || !equal(y, r) {
			t.Fatal(i, "Get answers otherwise a second time")
		}
		if again, _ := Put(r); !bytes.Equal(again, whole) {
			t.Fatal(i, "Put answers otherwise a second time")
		}
	}
}
