package slip

import (
	"bytes"

	"carrefour/api"
	"carrefour/octet"
)

const mostBytes = 20000 // of a record

// Sizes of the parts, in bytes.
const (
	kindBytes  = 1
	countBytes = 1 // how many follow
	tagBytes   = 4
	flagBytes  = 1
	pubBytes   = 1
	seqBytes   = 4
	textBytes  = 1 // how long a text is
)

// Put is r's bytes.
func Put(r api.Record) ([]byte, int) {
	if !May(r) {
		return nil, api.ErrArg
	}
	b := octet.PutNumber(nil, uint64(r.Kind), kindBytes)
	switch r.Kind {
	case api.RPut:
		b = putMsgs(b, r.Batch)
	case api.RGet, api.RAck, api.RNack:
		b = octet.PutNumber(b, uint64(r.Tag), tagBytes)
	case api.RState:
		b = putShard(b, r.Shard)
	}
	return fitting(b)
}

// fitting is b, unless it is too long. No shard that may be is, by the limits
// that there are now.
func fitting(b []byte) ([]byte, int) {
	if len(b) > mostBytes {
		return nil, api.ErrFull
	}
	return b, api.OK
}

func putShard(b []byte, s api.Shard) []byte {
	b = putFlag(b, s.Frozen)
	b = octet.PutNumber(b, uint64(s.Next), tagBytes)
	b = putMsgs(b, s.Ready)
	b = octet.PutNumber(b, uint64(len(s.Held)), countBytes)
	for _, h := range s.Held {
		b = putMsg(octet.PutNumber(b, uint64(h.Tag), tagBytes), h.M)
	}
	b = octet.PutNumber(b, uint64(len(s.Marks)), countBytes)
	for _, m := range s.Marks {
		b = octet.PutText(putSource(b, m.Pub, m.Seq), m.Key, textBytes)
	}
	return b
}

func putMsgs(b []byte, l []api.Msg) []byte {
	b = octet.PutNumber(b, uint64(len(l)), countBytes)
	for _, m := range l {
		b = putMsg(b, m)
	}
	return b
}

func putMsg(b []byte, m api.Msg) []byte {
	b = putFlag(putSource(b, m.Pub, m.Seq), m.Again)
	return octet.PutText(octet.PutText(b, m.Key, textBytes), m.Body, textBytes)
}

func putSource(b []byte, pub, seq int) []byte {
	return octet.PutNumber(octet.PutNumber(b, uint64(pub), pubBytes), uint64(seq), seqBytes)
}

func putFlag(b []byte, flag bool) []byte {
	if flag {
		return octet.PutNumber(b, 1, flagBytes)
	}
	return octet.PutNumber(b, 0, flagBytes)
}

// Get is the record of these bytes. Whatever is read of bytes that are none, Put
// makes other bytes of it, or nothing.
func Get(b []byte) (api.Record, int) {
	r := read(&octet.Reader{Left: b})
	if made, code := Put(r); code != api.OK || !bytes.Equal(made, b) {
		return api.Record{}, api.ErrBytes
	}
	return r, api.OK
}

func read(x *octet.Reader) api.Record {
	r := api.Record{Kind: int(x.Number(kindBytes))}
	switch r.Kind {
	case api.RPut:
		r.Batch = readMsgs(x)
	case api.RGet, api.RAck, api.RNack:
		r.Tag = int(x.Number(tagBytes))
	case api.RState:
		r.Shard = readShard(x)
	}
	return r
}

func readShard(x *octet.Reader) api.Shard {
	s := api.Shard{Frozen: readFlag(x), Next: int(x.Number(tagBytes)), Ready: readMsgs(x)}

	left := x.Number(countBytes)
held:
	if left > 0 && !x.Bad {
		s.Held = append(s.Held, api.Held{Tag: int(x.Number(tagBytes)), M: readMsg(x)})
		left--
		goto held
	}

	left = x.Number(countBytes)
marks:
	if left > 0 && !x.Bad {
		s.Marks = append(s.Marks, readMark(x))
		left--
		goto marks
	}
	return s
}

func readMsgs(x *octet.Reader) []api.Msg {
	var l []api.Msg
	left := x.Number(countBytes)
more:
	if left > 0 && !x.Bad {
		l = append(l, readMsg(x))
		left--
		goto more
	}
	return l
}

func readMsg(x *octet.Reader) api.Msg {
	m := api.Msg{Pub: int(x.Number(pubBytes)), Seq: int(x.Number(seqBytes)), Again: readFlag(x)}
	m.Key, m.Body = readText(x), readText(x)
	return m
}

func readMark(x *octet.Reader) api.Mark {
	return api.Mark{Pub: int(x.Number(pubBytes)), Seq: int(x.Number(seqBytes)), Key: readText(x)}
}

func readText(x *octet.Reader) string {
	return string(x.Counted(textBytes))
}

func readFlag(x *octet.Reader) bool {
	return x.Number(flagBytes) > 0
}
