package slip

import (
	"testing"

	"carrefour/api"
	"carrefour/shard"
)

// disk is a shard and the bytes of its records.
type disk struct {
	s api.Shard
	l [][]byte
}

// do does what one of some things is, and keeps its record, unless it fails.
func (d *disk) do(kind int) {
	var r api.Record
	s, code := d.s, api.OK
	batch := func(pub int, key string, many int) {
		r = put(msgs(pub, key, shard.Last(s, pub, key)+1, many)...)
		s, code = shard.Put(s, r.Batch)
	}
	oldest := 0
	if len(s.Held) > 0 {
		oldest = s.Held[0].Tag
	}
	switch kind {
	case 0:
		batch(0, "a", 2)
	case 1:
		batch(1, "b", 3)
	case 2:
		batch(3, "a", 1)
	case 3, 4, 5:
		r = tagged(api.RGet, s.Next)
		s, _, code = shard.Get(s)
	case 6:
		r = tagged(api.RAck, oldest)
		s, code = shard.Ack(s, oldest)
	case 7:
		r = tagged(api.RNack, oldest)
		s, code = shard.Nack(s, oldest)
	case 8:
		r = bare(api.RFreeze)
		s, code = shard.Freeze(s)
	case 9, 10:
		r = bare(api.RThaw)
		s, code = shard.Thaw(s)
	}
	if code == api.OK {
		d.keep(r)
		d.s = s
	}
}

func (d *disk) keep(r api.Record) {
	b, _ := Put(r)
	d.l = append(d.l, b)
}

// open is the shard that the bytes tell.
func (d *disk) open() (api.Shard, int) {
	var l []api.Record
	for _, b := range d.l {
		r, code := Get(b)
		if code != api.OK {
			return api.Shard{}, code
		}
		l = append(l, r)
	}
	return Open(l)
}

// Promises 14.3 and T3: what is on the disk is what is there, over long runs, also
// when the records begin anew with all that there is.
func TestDisk(t *testing.T) {
	seed := uint32(1)
	number := func(n int) int {
		seed = seed*1664525 + 1013904223
		return int(seed>>8) % n
	}
	kept := 0
	for run := range 200 {
		d := disk{s: shard.New()}
		for step := range 100 {
			d.do(number(11))
			if number(30) == 0 {
				d.l = nil
				d.keep(state(d.s))
			}
			if s, code := d.open(); code != api.OK || !equalShard(s, d.s) {
				t.Fatalf("run %d, step %d: %+v, %d, not %+v", run, step, s, code, d.s)
			}
		}
		kept += len(d.l)
	}
	if kept < 2000 {
		t.Error("only", kept)
	}
}
