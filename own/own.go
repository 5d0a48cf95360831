// Package own makes copies, which layers answer: whoever asked may change them,
// and nobody else sees it.
package own

import (
	"slices"

	"carrefour/api"
)

// Shard is s in memory that is nobody else's.
func Shard(s api.Shard) api.Shard {
	s.Ready, s.Held, s.Marks = slices.Clone(s.Ready), slices.Clone(s.Held), slices.Clone(s.Marks)
	return s
}
