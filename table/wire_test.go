package table

import (
	"bytes"
	"slices"
	"testing"

	"carrefour/api"
)

// laid are tables with their bytes.
func laid() []struct {
	t api.Table
	b []byte
} {
	return []struct {
		t api.Table
		b []byte
	}{
		{
			alone(),
			[]byte{0, 0, 0, 1, 1, 1, 0, 1, 0, 0, 0, 77, 0},
		},
		{
			three(),
			[]byte{0, 0, 0, 6, 5, 4, 1, 0, 3, 2, 0, 3, 0, 0, 0, 10, 3, 0, 0, 0, 20, 1, 128, 0, 0, 0, 0},
		},
		{
			api.Table{Epoch: 1 << 30, Arcs: []api.Arc{{From: 0x01020304, Shard: 15}, {From: 1<<32 - 1, Shard: 0}}, Nodes: append([]int{3}, slices.Repeat([]int{0}, 15)...)},
			[]byte{64, 0, 0, 0, 16, 4, 1, 1, 1, 1, 1, 1, 1, 1, 1, 1, 1, 1, 1, 1, 1, 0, 2, 1, 2, 3, 4, 15, 255, 255, 255, 255, 0},
		},
		{
			api.Table{Epoch: 0x01020304, Arcs: []api.Arc{{From: 1 << 24, Shard: 2}}, Nodes: []int{-1, -1, 2, -1}},
			[]byte{1, 2, 3, 4, 4, 0, 0, 3, 0, 0, 1, 1, 0, 0, 0, 2},
		},
	}
}

// Promise 10.3, Put and Get: just these bytes.
func TestBytes(t *testing.T) {
	for i, c := range laid() {
		if b, code := Put(c.t); code != api.OK || !bytes.Equal(b, c.b) {
			t.Errorf("%d: Put: %v, %d", i, b, code)
		}
		if x, code := Get(c.b); code != api.OK || !equal(x, c.t) {
			t.Errorf("%d: Get: %v, %d", i, x, code)
		}
	}
}

// Promise 10.3: there and back; how many bytes there are.
func TestThereAndBack(t *testing.T) {
	for i, x := range good() {
		b, code := Put(x)
		if code != api.OK || len(b) != 4+1+len(x.Nodes)+2+5*len(x.Arcs) {
			t.Errorf("good %d: %d bytes, %d", i, len(b), code)
		}
		if y, code := Get(b); code != api.OK || !equal(x, y) || !Same(x, y) {
			t.Errorf("good %d comes back as another: %d", i, code)
		}
	}
	b, _ := Put(many(1024, 100))
	if !bytes.Equal(b[7:14], []byte{4, 0, 0, 0, 0, 0, 0}) {
		t.Error("1,024 arcs:", b[:14])
	}
	b, _ = Put(many(258, 100))
	if !bytes.Equal(b[7:9], []byte{1, 2}) {
		t.Error("258 arcs:", b[:14])
	}
}

// Promise 10.3, Put: ErrArg of what may not be.
func TestPutErrArg(t *testing.T) {
	for i, x := range bad() {
		if b, code := Put(x); code != api.ErrArg || len(b) != 0 {
			t.Errorf("bad %d: %d bytes, %d", i, len(b), code)
		}
	}
}

func getRefused(b []byte) bool {
	x, code := Get(b)
	return code == api.ErrBytes && x.Epoch == 0 && len(x.Arcs) == 0 && len(x.Nodes) == 0
}

// Promise 10.3, Get: ErrBytes of fewer bytes and of more.
func TestGetCut(t *testing.T) {
	for i, x := range good() {
		b, _ := Put(x)
		for n := range min(len(b), 300) {
			if !getRefused(b[:n]) || !getRefused(b[:len(b)-1-n]) {
				t.Error("good", i, "cut by", n)
			}
		}
		for more := range 256 {
			if !getRefused(append(slices.Clone(b), byte(more))) {
				t.Error("good", i, "and", more)
			}
		}
		if !getRefused(append(slices.Clone(b), b...)) || !getRefused(append(slices.Clone(b), make([]byte, 1<<20)...)) {
			t.Error("good", i, "and more")
		}
	}
	if !getRefused(nil) || !getRefused([]byte{}) {
		t.Error("nothing")
	}
}

// Promise 10.3, Get: each byte changed to each other one is another table's, or none's.
func TestGetChanged(t *testing.T) {
	for i, c := range laid() {
		for k := range c.b {
			for to := range 256 {
				b := slices.Clone(c.b)
				b[k] = byte(to)
				x, code := Get(b)
				if code == api.ErrBytes && getRefused(b) {
					continue
				}
				if back, putCode := Put(x); code != api.OK || putCode != api.OK || !bytes.Equal(back, b) {
					t.Fatalf("%d: %v: %v, %d", i, b, x, code)
				}
			}
		}
	}
}

// Promise 10.3, Get: ErrBytes of tables that may not be.
func TestGetErrBytes(t *testing.T) {
	for i, b := range [][]byte{
		{0, 0, 0, 0, 1, 1, 0, 1, 0, 0, 0, 77, 0},                                                        // epoch 0
		{64, 0, 0, 1, 1, 1, 0, 1, 0, 0, 0, 77, 0},                                                       // epochs too great
		{128, 0, 0, 1, 1, 1, 0, 1, 0, 0, 0, 77, 0},                                                      //
		{255, 255, 255, 255, 1, 1, 0, 1, 0, 0, 0, 77, 0},                                                //
		{0, 0, 0, 1, 0, 0, 1, 0, 0, 0, 77, 0},                                                           // no nodes
		{0, 0, 0, 1, 0, 0, 0},                                                                           // nothing
		{0, 0, 0, 1, 1, 1, 0, 0},                                                                        // no arcs
		{0, 0, 0, 1, 1, 0, 0, 1, 0, 0, 0, 77, 0},                                                        // an arc's shard on no node
		{0, 0, 0, 1, 1, 5, 0, 1, 0, 0, 0, 77, 0},                                                        // nodes out of range
		{0, 0, 0, 1, 1, 255, 0, 1, 0, 0, 0, 77, 0},                                                      //
		{0, 0, 0, 1, 2, 1, 5, 0, 1, 0, 0, 0, 77, 0},                                                     //
		{0, 0, 0, 1, 1, 1, 0, 1, 0, 0, 0, 77, 1},                                                        // a shard that there is not
		{0, 0, 0, 1, 1, 1, 0, 1, 0, 0, 0, 77, 255},                                                      //
		{0, 0, 0, 1, 1, 1, 0, 2, 0, 0, 0, 77, 0, 0, 0, 0, 77, 0},                                        // arcs that don't rise
		{0, 0, 0, 1, 1, 1, 0, 2, 0, 0, 0, 77, 0, 0, 0, 0, 76, 0},                                        //
		append([]byte{0, 0, 0, 1, 17}, append(slices.Repeat([]byte{1}, 17), 0, 1, 0, 0, 0, 77, 0)...),   // 17 nodes
		append([]byte{0, 0, 0, 1, 255}, append(slices.Repeat([]byte{1}, 255), 0, 1, 0, 0, 0, 77, 0)...), // 255 nodes
		append([]byte{0, 0, 0, 1, 1, 1, 255, 255}, slices.Repeat([]byte{0, 0, 0, 77, 0}, 65535)...),     // 65,535 arcs
		{255, 255, 255, 255, 255, 255, 255, 255, 255, 255},
	} {
		if !getRefused(b) {
			t.Error(i, "is read")
		}
	}
	b, _ := Put(many(1024, 100))
	more := append(slices.Clone(b), 255, 255, 255, 255, 0)
	more[8]++
	if !getRefused(more) {
		t.Error("1,025 arcs are read")
	}
}

// Rules 2 and 3: bytes that are handed in stay as they are; answers are the caller's own.
func TestBytesAreOwn(t *testing.T) {
	for i, c := range laid() {
		handed := append(make([]byte, 0, 100), c.b...)
		x, _ := Get(handed)
		if !bytes.Equal(handed[:100], append(slices.Clone(c.b), make([]byte, 100-len(c.b))...)) {
			t.Error(i, "was changed")
		}
		clear(handed)
		if !equal(x, c.t) {
			t.Error(i, "changes with its bytes")
		}
		spoil(x)
		if y, _ := Get(c.b); !equal(y, c.t) {
			t.Error(i, "is shared")
		}
		b, _ := Put(c.t)
		clear(b[:cap(b)])
		if again, _ := Put(c.t); !bytes.Equal(again, c.b) {
			t.Error(i, "has its bytes shared")
		}
	}
}
