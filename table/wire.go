package table

import (
	"carrefour/api"
	"carrefour/octet"
)

// Sizes of the parts, in bytes.
const (
	epochBytes = 4
	nodesBytes = 1 // how many nodes follow
	nodeBytes  = 1
	arcsBytes  = 2 // how many arcs follow
	fromBytes  = 4
	shardBytes = 1
)

// Put is t's bytes.
func Put(t api.Table) ([]byte, int) {
	if !May(t) {
		return nil, api.ErrArg
	}
	b := octet.PutNumber(nil, uint64(t.Epoch), epochBytes)
	b = octet.PutNumber(b, uint64(len(t.Nodes)), nodesBytes)
	for _, node := range t.Nodes {
		b = octet.PutNumber(b, uint64(node+1), nodeBytes)
	}
	b = octet.PutNumber(b, uint64(len(t.Arcs)), arcsBytes)
	for _, a := range t.Arcs {
		b = octet.PutNumber(b, uint64(a.From), fromBytes)
		b = octet.PutNumber(b, uint64(a.Shard), shardBytes)
	}
	return b, api.OK
}

// Get is the table of these bytes. What may be is put as just one row of bytes,
// so all that is read whole, and may be, is what Put makes.
func Get(b []byte) (api.Table, int) {
	r := octet.Reader{Left: b}
	t := api.Table{Epoch: int(r.Number(epochBytes))}

	left := r.Number(nodesBytes)
nodes:
	if left > 0 && !r.Bad {
		t.Nodes = append(t.Nodes, int(r.Number(nodeBytes))-1)
		left--
		goto nodes
	}

	left = r.Number(arcsBytes)
arcs:
	if left > 0 && !r.Bad {
		t.Arcs = append(t.Arcs, api.Arc{From: uint32(r.Number(fromBytes)), Shard: int(r.Number(shardBytes))})
		left--
		goto arcs
	}

	if r.Bad || len(r.Left) > 0 || !May(t) {
		return api.Table{}, api.ErrBytes
	}
	return t, api.OK
}
